package modal_test

import (
	"math/rand"
	"slices"
	"strings"
	"testing"

	"squeegee/api"
	"squeegee/modal"
)

// lonely has that many worlds, which see nothing.
func lonely(worlds int) modal.Model {
	return modal.Model{Sees: make([][]int, worlds), True: make([]string, worlds)}
}

// P5.2: what models are.
func TestModels(t *testing.T) {
	for _, m := range []modal.Model{model(":"), model("p:0"), model("pqr:01 pq:1"), model("pr:1 qr:0 q:012 r: p:"), lonely(1000)} {
		if e := modal.CheckModel(m); e != api.OK {
			t.Errorf("CheckModel of %v: %d", m, e)
		}
	}
	for what, m := range map[string]modal.Model{
		"nothing": {}, "no worlds": {Sees: [][]int{}, True: []string{}}, "1001 worlds": lonely(1001), "a million worlds": lonely(1000000), "no atoms": {Sees: [][]int{nil}}, "no lists": {True: []string{""}}, "fewer atoms": {Sees: [][]int{nil, nil}, True: []string{"p"}}, "more atoms": {Sees: [][]int{nil}, True: []string{"p", "p"}},
		"a world that is not there": model(":1"), "the next world": model(": :012"), "less than 0": {Sees: [][]int{{-1}}, True: []string{""}}, "a far world": {Sees: [][]int{{0, 1 << 62}}, True: []string{""}}, "twice": model(":00"), "falling": model(":10 :"), "twice later": model(":011 :"), "many": {Sees: [][]int{make([]int, 1000000)}, True: []string{""}},
		"0": model("0:"), "s": model("s:"), "P": model("P:"), "pp": model("pp:"), "qp": model("qp:"), "rq": model("rq:"), "pqrp": model("pqrp:"), "prq": model("prq:"), "p!": model("p!:"), "\xff": model("\xff:"), "\ufffd": model("p\ufffd:"), "the second world": model("p: qq:"), "a blank": {Sees: [][]int{nil}, True: []string{" "}}, "long": {Sees: [][]int{nil}, True: []string{strings.Repeat("p", 1000000)}},
	} {
		refused(t, what, api.ErrModel, modelCalls(m, 0, 'K'))
		refused(t, what, api.ErrModel, modelCalls(m, -1, 'X'))
	}
}

// P5.2: worlds that are not there, and classes that are none; after what Check and CheckModel return.
func TestWorldsAndClasses(t *testing.T) {
	m := model("p:01 q:")
	for _, w := range []int{-1, 2, 1000, 1 << 62, -1 << 63} {
		calls := modelCalls(m, w, 'K')
		delete(calls, "CheckModel")
		delete(calls, "InClass")
		refused(t, "a world that is not there", api.ErrArg, calls)
		if is, e := modal.Holds(modal.Model{}, w, "p"); is || e != api.ErrModel {
			t.Errorf("Holds: %v, %d", is, e)
		}
		if is, e := modal.Holds(modal.Model{}, w, "pp"); is || e != api.ErrFormula {
			t.Errorf("Holds: %v, %d", is, e)
		}
	}
	if d, is, e := modal.Alike(m, modal.Model{}, 2, 0); d != 0 || is || e != api.ErrModel {
		t.Errorf("Alike: %d, %v, %d", d, is, e)
	}
	for class := range 256 {
		calls := modelCalls(m, 0, byte(class))
		in, e := modal.InClass(m, byte(class))
		switch {
		case strings.IndexByte(classes, byte(class)) < 0:
			refused(t, "a class that is none", api.ErrArg, map[string]func() (result, api.Errno){"InClass": calls["InClass"]})
		case e != api.OK || in != isOf(m, byte(class)):
			t.Errorf("InClass of %c: %v, %d", class, in, e)
		}
	}
}

// P5.2: what is true at the worlds of one model.
func TestHolds(t *testing.T) {
	m := model("p:12 q:1 pr:")
	for f, want := range map[string]string{
		"p": "yny", "q": "nyn", "r": "nny", "0": "nnn", "!0": "yyy", "!p": "nyn", "(p&r)": "nny", "(p|q)": "yyy", "(p>r)": "nyy", "(q>0)": "yny",
		"#q": "nyy", "*q": "yyn", "#0": "nny", "*!0": "yyn", "##q": "yyy", "*#0": "ynn", "#(q|r)": "yyy", "*(p&r)": "ynn", "!#q": "ynn", "(*q&*p)": "ynn", "#*q": "nyy",
	} {
		for w, c := range want {
			if is, e := modal.Holds(m, w, f); is != (c == 'y') || e != api.OK {
				t.Errorf("Holds at %d, %s: %v, %d", w, f, is, e)
			}
		}
	}
}

// P5.2: what is true, and which classes a model is of, by the definitions.
func TestSomeModels(t *testing.T) {
	random := rand.New(rand.NewSource(72))
	found := map[byte]int{}
	for i := range 4000 {
		m := completed(someModel(random, 1+random.Intn(5), random.Intn(101), "pqr"), classes[i%4])
		f := some(random, 1+random.Intn(25))
		x, _ := parse(f)
		for w := range m.Sees {
			if is, e := modal.Holds(m, w, f); is != holds(m, w, x) || e != api.OK {
				t.Fatalf("Holds of %v, %d, %s: %v, %d", m, w, f, is, e)
			}
		}
		for _, class := range []byte(classes) {
			is, e := modal.InClass(m, class)
			if is != isOf(m, class) || e != api.OK {
				t.Fatalf("InClass of %v, %c: %v, %d", m, class, is, e)
			}
			if is {
				found[class]++
			}
		}
	}
	if found['K'] != 4000 || found['T'] > 3900 || found['4'] > 3900 || found['S'] > 3900 {
		t.Error(found)
	}
}

// P5.2: classes of models that are large.
func TestLargeModels(t *testing.T) {
	var all []int
	for w := range 1000 {
		all = append(all, w)
	}
	later, full := lonely(1000), lonely(1000)
	for w := range 1000 {
		later.Sees[w] = slices.Clone(all[w+1:])
		full.Sees[w] = slices.Clone(all)
	}
	gap := lonely(1000)
	copy(gap.Sees, later.Sees)
	gap.Sees[3] = append(slices.Clone(later.Sees[3][:500]), later.Sees[3][501:]...)
	for _, x := range []struct {
		m    modal.Model
		want string
	}{{lonely(1000), "K4"}, {later, "K4"}, {full, "KT4S"}, {gap, "K"}} {
		for _, class := range []byte(classes) {
			if is, e := modal.InClass(x.m, class); is != (strings.IndexByte(x.want, class) >= 0) || e != api.OK {
				t.Errorf("InClass of one of %s, %c: %v, %d", x.want, class, is, e)
			}
		}
	}
	f := strings.Repeat("*", 59) + "!0"
	if modal.Check(f) == api.OK {
		t.Error("61 bytes")
	}
	f = strings.Repeat("*", 58) + "!0"
	for w, want := range map[int]bool{0: true, 941: true, 942: false, 999: false} {
		if is, e := modal.Holds(later, w, f); is != want || e != api.OK {
			t.Errorf("Holds at %d: %v, %d", w, is, e)
		}
	}
	if is, e := modal.Holds(full, 7, strings.Repeat("#*", 27)+"(p|!q)"); !is || e != api.OK {
		t.Errorf("Holds: %v, %d", is, e)
	}
}

package cups_test

import (
	"fmt"
	"math"
	"math/rand"
	"testing"

	"squeegee/api"
	"squeegee/cups"
)

// known are points of which the numbers of points of the longest cup, the longest cap, the largest polygon and the largest empty polygon are known.
var known = []struct {
	points string
	most   [4]int
}{
	{"0 0;1 1;2 0;3 1", [4]int{3, 3, 4, 4}}, {"0 0;4 0;0 4;1 1", [4]int{3, 3, 3, 3}}, // the chapter's
	{"0 0;1 0;0 1", [4]int{2, 3, 3, 3}}, {"0 0;1 0;1 1", [4]int{3, 2, 3, 3}}, {"1 1;0 1;0 0", [4]int{2, 3, 3, 3}}, {"0 0;0 1;1 0;1 1", [4]int{3, 3, 4, 4}},
	{"6 -23;40 38;-40 -24;-30 39;4 18;-17 -7;4 -21;-15 19", [4]int{4, 4, 4, 4}},                                     // no five of these are a polygon
	{"-34 -25;39 -40;-13 9;-25 21;-32 -15;-13 -4;20 -26;-5 -21;-27 34", [4]int{4, 5, 5, 4}},                         // no five of these are an empty one
	{"10 11;15 -5;2 -3;-7 3;20 -8;12 -20", [4]int{3, 3, 4, 4}},                                                      // no four of these are a cup or a cap
	{"186 68;-46 300;-42 -29;-144 -255;-141 -300;-246 -260;271 13;-268 -270;-105 162;-143 264", [4]int{3, 4, 5, 5}}, // no four of these are a cup, no five a cap
	{"0 0;1 1;2 4;3 9;4 16;5 25;6 36;7 49;8 64;9 81;10 100;11 121;12 144;13 169", [4]int{14, 2, 14, 14}},
	{"0 0;1 -1;2 -4;3 -9;4 -16;5 -25;6 -36;7 -49;8 -64;9 -81;10 -100;11 -121;12 -144;13 -169", [4]int{2, 14, 14, 14}},
	{"-10 -9;10 -10;11 10;-9 11;0 1", [4]int{4, 3, 4, 4}}, {"-1000 -1000;1000 -1000;1000 1000;-1000 1000;1 0", [4]int{3, 4, 4, 4}},
}

// P9.2, P9.3: Cup, Cap, Polygon and Empty of points that are known, and of any, against all sets of them.
func TestMost(t *testing.T) {
	for _, x := range known {
		l := points(x.points)
		for kind := range 4 {
			if got := checkMost(t, l, kind); got != x.most[kind] {
				t.Errorf("%s of %s has %d points", mostCalls[kind].name, x.points, got)
			}
		}
	}
	random := rand.New(rand.NewSource(6))
	for _, l := range append(examples(random, 500, 3, 10), examples(random, 8, 14, 14)...) {
		for kind := range 4 {
			checkMost(t, l, kind)
		}
	}
	for _, s := range []string{"0 0;5 1", "5 1;0 0", "0 0;0 1", "0 1;0 0"} {
		for kind := range 2 {
			if got := checkMost(t, points(s), kind); got != 2 {
				t.Errorf("%s of %s has %d points", mostCalls[kind].name, s, got)
			}
		}
	}
}

// mostCalls are the calls that return a list with the most points, and what it has to be.
var mostCalls = []struct {
	name    string
	call    func([][2]int) ([]int, api.Errno)
	arrange func([][2]int, []int) []int
	kind    string
}{
	{"Cup", cups.Cup, inOrder, "IsCup"}, {"Cap", cups.Cap, inOrder, "IsCap"}, {"Polygon", cups.Polygon, around, "IsPolygon"}, {"Empty", cups.Empty, around, "IsEmpty"},
}

// checkMost checks a list with the most points by going through all sets, and returns its length.
func checkMost(t *testing.T, l [][2]int, kind int) int {
	t.Helper()
	x := mostCalls[kind]
	list, e := x.call(l)
	want := greatest(l, x.arrange, kindsBy[x.kind])
	if e != api.OK || len(list) != want || !kindsBy[x.kind](l, list) || !kinds[x.kind](l, list) {
		t.Fatalf("%s of %v: %v, %d instead of %d points", x.name, l, list, e, want)
	}
	return len(list)
}

// P9.2, P9.3: IsCup, IsCap, IsPolygon and IsEmpty of points that are known.
func TestKinds(t *testing.T) {
	for _, x := range []struct {
		points, list string
		want         string // the kinds that it is of
	}{
		{"0 0;1 1;2 0;3 1", "0 2 3", "cup polygon empty"}, {"0 0;1 1;2 0;3 1", "1 2 3", "cup polygon empty"}, {"0 0;1 1;2 0;3 1", "0 1 2", "cap"}, {"0 0;1 1;2 0;3 1", "0 1 3", "cap"}, {"0 0;1 1;2 0;3 1", "0 2 3 1", "polygon empty"}, // the chapter's
		{"0 0;1 1;2 0;3 1", "0 1", "cup cap"}, {"0 0;1 1;2 0;3 1", "0 3", "cup cap"}, {"0 0;1 1;2 0;3 1", "1 0", ""}, {"0 0;1 1;2 0;3 1", "0 1 2 3", ""}, {"0 0;1 1;2 0;3 1", "0", ""}, {"0 0;1 1;2 0;3 1", "", ""}, {"0 0;1 1;2 0;3 1", "2 3 0", ""}, {"0 0;1 1;2 0;3 1", "3 0 2", ""}, {"0 0;1 1;2 0;3 1", "2 3 1 0", ""}, {"0 0;1 1;2 0;3 1", "0 1 3 2", ""}, {"0 0;1 1;2 0;3 1", "0 2 3 1 0", ""}, {"0 0;1 1;2 0;3 1", "0 2 2 3", ""}, {"0 0;1 1;2 0;3 1", "0 0 2 3", ""}, {"0 0;1 1;2 0;3 1", "0 2 3 3", ""}, {"0 0;1 1;2 0;3 1", "0 2 0 2 3", ""},
		{"0 0;4 0;0 4;1 1", "0 1 2", "polygon"}, {"0 0;4 0;0 4;1 1", "0 1 3", "polygon empty"}, {"0 0;4 0;0 4;1 1", "0 3 2", "polygon empty"}, {"0 0;4 0;0 4;1 1", "2 3 1", "cup polygon empty"}, {"0 0;4 0;0 4;1 1", "0 1 3 2", ""}, {"0 0;4 0;0 4;1 1", "0 2 1", "cap"}, {"0 0;4 0;0 4;1 1", "0 2 3", "cap"}, {"0 0;4 0;0 4;1 1", "0 2", "cup cap"}, {"0 0;4 0;0 4;1 1", "2 0", ""}, {"0 0;4 0;0 4;1 1", "3 0 1", ""}, {"0 0;4 0;0 4;1 1", "3 1 2", ""},
		{"0 0;1 0;1 1", "0 1 2", "cup polygon empty"}, {"0 0;1 0;1 1", "0 2 1", ""},
		{"0 10;-10 3;-6 -8;6 -8;10 3", "1 2 3 4 0", "polygon empty"}, {"0 10;-10 3;-6 -8;6 -8;10 3", "1 2 3 4", "cup polygon empty"}, {"0 10;-10 3;-6 -8;6 -8;10 3", "1 3 0 2 4", ""}, {"0 10;-10 3;-6 -8;6 -8;10 3", "0 1 2 3 4", ""}, {"0 10;-10 3;-6 -8;6 -8;10 3", "1 0 4 3 2", ""}, {"0 10;-10 3;-6 -8;6 -8;10 3", "1 0 4", "cap"}, {"0 10;-10 3;-6 -8;6 -8;10 3", "1 2 3 4 0 1 2 3 4 0", ""},
		{"0 10;-10 3;-6 -8;6 -8;10 3;1 -1", "1 2 3 4 0", "polygon"}, {"0 10;-10 3;-6 -8;6 -8;10 3;1 -1", "1 2 3 4", "cup polygon"}, {"0 10;-10 3;-6 -8;6 -8;10 3;1 -1", "1 2 3", "cup polygon empty"}, {"0 10;-10 3;-6 -8;6 -8;10 3;1 -1", "2 3 5", "polygon empty"},
	} {
		l, list := points(x.points), ints(x.list)
		got := ""
		for _, kind := range []struct{ call, word string }{{"IsCup", " cup"}, {"IsCap", " cap"}, {"IsPolygon", " polygon"}, {"IsEmpty", " empty"}} {
			if kinds[kind.call](l, list) {
				got += kind.word
			}
		}
		if got != "" && got[1:] != x.want || got == "" && x.want != "" {
			t.Errorf("%s of %s is%s, not %s", x.list, x.points, got, x.want)
		}
	}
}

// P9.2, P9.3: IsCup, IsCap, IsPolygon and IsEmpty of all short lists, also with wrong indices.
func TestAnyKinds(t *testing.T) {
	random := rand.New(rand.NewSource(7))
	found := map[string]int{}
	for _, l := range examples(random, 12, 2, 6) {
		eachList(len(l), 4, func(list []int) { checkKinds(t, l, list, found) })
	}
	for _, l := range examples(random, 2, 5, 5) {
		eachList(5, 5, func(list []int) { checkKinds(t, l, list, found) })
	}
	for _, l := range examples(random, 1000, 5, 14) {
		list := random.Perm(len(l))[:random.Intn(len(l)+1)]
		for _, list := range [][]int{list, inOrder(l, list), around(l, append(list, 0)), hullOf(l)} {
			checkKinds(t, l, list, found)
		}
	}
	for called := range kinds {
		if found[called] < 500 {
			t.Errorf("%s found %d only", called, found[called])
		}
	}
}

// eachList gives all lists of up to so many numbers from -1 to n.
func eachList(n, length int, visit func([]int)) {
	var extend func(list []int)
	extend = func(list []int) {
		visit(list)
		if len(list) < length {
			for i := -1; i <= n; i++ {
				extend(append(list, i))
			}
		}
	}
	extend(make([]int, 0, length))
}

func hullOf(l [][2]int) []int {
	return layersBy(l)[0]
}

func checkKinds(t *testing.T, l [][2]int, list []int, found map[string]int) {
	t.Helper()
	for called, is := range kinds {
		want := kindsBy[called](l, list)
		if is(l, list) != want {
			t.Fatalf("%s of %v, %v: not %t", called, l, list, want)
		}
		if want {
			found[called]++
		}
	}
}

// P9.2, P9.3: indices that are far from all points, in lists that would be right with others.
func TestWrongIndices(t *testing.T) {
	l := points("0 0;1 1;2 0;3 1")
	for _, list := range []string{"0 2 3", "0 1 3", "0 2 3 1", "0 1"} {
		for where := range ints(list) {
			for _, i := range []int{-1, 4, 14, 28, 1 << 32, 1<<32 + 1, 1 << 8, 1 << 16, math.MinInt, math.MaxInt, math.MinInt + 1} {
				wrong := ints(list)
				wrong[where] = i
				for called, is := range kinds {
					if is(l, wrong) {
						t.Errorf("%s of %v", called, wrong)
					}
				}
			}
		}
	}
	for called, is := range kinds {
		if is(l, make([]int, 100000)) {
			t.Errorf("%s of a long list", called)
		}
	}
}

// binomial is the number of sets of k of n things.
func binomial(n, k int) int {
	if k < 0 || k > n {
		return 0
	}
	out := 1
	for i := range k {
		out = out * (n - i) / (i + 1)
	}
	return out
}

// P9.6: of many points some are a cup, or some a cap; five have a polygon of four, and ten an empty one of five.
func TestMany(t *testing.T) {
	random := rand.New(rand.NewSource(8))
	for _, l := range examples(random, 3000, 3, 14) {
		longestCup, longestCap := len(must[[]int](t)(cups.Cup(l))), len(must[[]int](t)(cups.Cap(l)))
		for a := 2; a <= 14; a++ {
			for b := 2; b <= 14; b++ {
				if len(l) > binomial(a+b-4, a-2) && longestCup < a && longestCap < b {
					t.Fatalf("no %d of %v are a cup, and no %d a cap", a, l, b)
				}
			}
		}
		if len(l) >= 5 && len(must[[]int](t)(cups.Polygon(l))) < 4 {
			t.Fatalf("%v have no polygon of four", l)
		}
		if len(l) >= 10 && len(must[[]int](t)(cups.Empty(l))) < 5 {
			t.Fatalf("%v have no empty polygon of five", l)
		}
	}
}

// P9.2, P9.3: what is returned does not depend on the order of the points, but for their indices.
func TestShuffled(t *testing.T) {
	random := rand.New(rand.NewSource(9))
	for _, l := range examples(random, 300, 3, 14) {
		m := mixed(random, l, nil)
		for _, x := range mostCalls {
			a, b := must[[]int](t)(x.call(l)), must[[]int](t)(x.call(m))
			if len(a) != len(b) {
				t.Fatalf("%s of %v: %v, and of %v: %v", x.name, l, a, m, b)
			}
		}
		if a, b := coordinates(l), coordinates(m); a != b {
			t.Fatalf("Layers of %v: %s, and of %v: %s", l, a, m, b)
		}
	}
}

// coordinates writes the layers as points, not as indices.
func coordinates(l [][2]int) string {
	layers, _ := cups.Layers(l)
	out := ""
	for _, layer := range layers {
		for _, p := range layer {
			out += fmt.Sprint(l[p], " ")
		}
		out += "; "
	}
	return out
}

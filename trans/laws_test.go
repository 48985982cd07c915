package trans_test

import (
	"math/rand"
	"reflect"
	"testing"

	"squeegee/api"
	"squeegee/trans"
)

// P3.4: a sequential machine is functional and has twins.
func TestSequentialLaws(t *testing.T) {
	random := rand.New(rand.NewSource(40))
	for range 3000 {
		m := someSequential(random, 1+random.Intn(5), 3)
		is, e := trans.Sequential(m)
		word, functional, f := trans.Functional(m)
		has, g := trans.Twins(m)
		if !is || !functional || word != "" || !has || e != api.OK || f != api.OK || g != api.OK {
			t.Fatalf("%s: %v, %d; %q, %v, %d; %v, %d", show(m), is, e, word, functional, f, has, g)
		}
	}
}

// P3.4: the first machine, as far as its outputs are short enough, is its own first machine, and Before is empty.
func TestFirstOfFirst(t *testing.T) {
	random := rand.New(rand.NewSource(41))
	found := 0
	for range 1000 {
		m := someSequential(random, 1+random.Intn(5), 1)
		_, first, e := trans.First(m)
		if e != api.OK || trans.Check(first) != api.OK {
			continue
		}
		before, again, e := trans.First(first)
		if before != "" || show(again) != show(first) || e != api.OK {
			t.Fatalf("%s: %q, %s, %d", show(first), before, show(again), e)
		}
		found++
	}
	if found < 500 {
		t.Errorf("only %d", found)
	}
}

// P3.5: a machine with a word of more than one output is not functional, and Outputs shows that of the words that Functional returns, if they are short enough.
func TestWordsLaw(t *testing.T) {
	random := rand.New(rand.NewSource(42))
	found := map[bool]int{}
	for range 3000 {
		m := someMachine(random, 1+random.Intn(5), 10, 2)
		word, is, e := trans.Functional(m)
		if e != api.OK {
			t.Fatal(show(m), e)
		}
		if list, f := trans.Outputs(m, word); !is && len(word) <= 10 && len(list) < 2 && f != api.ErrLarge {
			t.Fatalf("%s: %q, %q, %d", show(m), word, list, f)
		}
		for range 20 {
			w := some(random, "ab", 6)
			if list, _ := trans.Outputs(m, w); is && len(list) > 1 {
				t.Fatalf("%s: %q, %q", show(m), w, list)
			}
		}
		found[is]++
	}
	if found[true] < 500 || found[false] < 500 {
		t.Errorf("%v", found)
	}
}

// someData are hardly ever a machine.
func someData(random *rand.Rand) trans.Machine {
	number := func() int { return random.Intn(9) - 2 }
	m := trans.Machine{Start: number()}
	for range random.Intn(4) {
		m.Edges = append(m.Edges, trans.Edge{From: number(), Letter: byte(random.Intn(256)), Output: some(random, "xyzab\x00\xff", 5), To: number()})
	}
	for range random.Intn(8) {
		m.Ends = append(m.Ends, trans.End{Final: random.Intn(2) == 0, After: some(random, "xyxyxyxyz\xff", 4)})
	}
	return m
}

// P1, R7: no call panics, whatever it is given, and all of them say the same when they are asked again.
func TestAnyData(t *testing.T) {
	random := rand.New(rand.NewSource(43))
	for i := range 6000 {
		m := someData(random)
		if i%2 == 0 {
			m = someMachine(random, 1+random.Intn(5), 20, 3)
		}
		for name, call := range calls(m) {
			x, e := call()
			y, f := call()
			if !reflect.DeepEqual(x, y) || e != f || (e == api.ErrMachine) != (trans.Check(m) == api.ErrMachine) {
				t.Fatalf("%s of %s: %v, %d and %v, %d", name, show(m), x, e, y, f)
			}
			if e != api.OK && !x.isZero() {
				t.Fatalf("%s of %s: %v, %d", name, show(m), x, e)
			}
		}
	}
}

// P1: very long arguments are refused.
func TestLongData(t *testing.T) {
	edges, ends := make([]trans.Edge, 1000000), make([]trans.End, 1000000)
	for name, m := range map[string]trans.Machine{"edges": {Edges: edges, Ends: ends[:1]}, "ends": {Ends: ends}, "both": {Edges: edges, Ends: ends}} {
		for call, f := range calls(m) {
			r, e := f()
			refused(t, call+" of many "+name, api.ErrMachine, e, r...)
		}
	}
}

// R4: results are new memory.
func TestResults(t *testing.T) {
	m := plain()
	_, first, _ := trans.First(m)
	states, _ := trans.Useful(m)
	list, _ := trans.Outputs(m, "ab")
	first.Edges[0].Output, first.Ends[0].After, states[0], list[0] = "yyy", "yyy", 9, "yyy"
	if !reflect.DeepEqual(m, plain()) {
		t.Errorf("a result shares memory with its argument: %s", show(m))
	}
	_, again, _ := trans.First(m)
	moreStates, _ := trans.Useful(m)
	moreList, _ := trans.Outputs(m, "ab")
	if show(again) != show(plain()) || moreStates[0] != 0 || moreList[0] != "xy" {
		t.Errorf("results share memory: %s, %v, %v", show(again), moreStates, moreList)
	}
}

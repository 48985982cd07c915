package trans_test

import (
	"math"
	"math/rand"
	"reflect"
	"slices"
	"strings"
	"testing"

	"squeegee/api"
	"squeegee/trans"
)

// full has as many states and edges as there may be.
func full() trans.Machine {
	return machine(4, "xxx yyy . - xy", edges("0axxx0 0a1 0ay1 0ayyy1 0a2 0a3 0a4 0b0 0bx0 0by0 1a0 1b0 2a0 2b0 3a0 3b0 4a4 4axyx4 4ay4 4b0")...)
}

// P3.1: what is a machine.
func TestCheck(t *testing.T) {
	for _, m := range []trans.Machine{
		plain(), forked(), twinless(), full(), machine(0, "-"), machine(0, "."), machine(0, "xyx"), machine(1, "- -"),
		machine(0, ".", edges("0a0 0ax0 0axx0 0axy0 0ay0")...), machine(0, ". .", edges("0ay0 0a1 0b0 1a0")...),
	} {
		if e := trans.Check(m); e != api.OK {
			t.Errorf("%s: %d", show(m), e)
		}
	}
}

// broken are data that are no machines.
func broken() map[string]trans.Machine {
	out := map[string]trans.Machine{
		"nothing": {}, "no states": {Edges: []trans.Edge{}, Ends: []trans.End{}}, "six states": machine(0, ". . . . . ."),
		"start below": machine(-1, "."), "start above": machine(1, "."), "start far above": machine(math.MaxInt, "."), "start far below": machine(math.MinInt, "."),
		"from above": machine(0, ".", "1a0"), "to above": machine(0, ".", "0a1"), "letter c": machine(0, ".", "0c0"), "letter A": machine(0, ".", "0A0"), "output letter": machine(0, ".", "0x0"), "letter 255": machine(0, ".", "0\xff0"), "letter 0": machine(0, ".", "0\x000"),
		"output of four": machine(0, ".", "0axxxx0"), "output of input letters": machine(0, ".", "0aa0"), "output z": machine(0, ".", "0axz0"), "output broken": machine(0, ".", "0a\xff0"), "output upper": machine(0, ".", "0aX0"),
		"an edge twice": machine(0, ".", "0ax0", "0ax0"), "by from": machine(0, ". .", "1a0", "0a0"), "by letter": machine(0, ". .", "0b0", "0a1"), "by to": machine(0, ". .", "0a1", "0ax0"), "by output": machine(0, ".", "0ay0", "0ax0"), "by output, a beginning": machine(0, ".", "0axx0", "0ax0"), "late": machine(0, ".", "0ax0", "0ay0", "0bx0", "0b0"),
		"after of four": machine(0, "xxxx"), "after of input letters": machine(0, ". a"), "after broken": machine(0, "x\xff"),
	}
	below := machine(0, ". .", "0a0")
	below.Edges[0].From = -1
	out["from below"] = below
	far := machine(0, ". .", "0a0")
	far.Edges[0].To = math.MinInt
	out["to far below"] = far
	after := machine(0, ". -")
	after.Ends[1].After = "x"
	out["after of a state that is not final"] = after
	many := full()
	many.Edges = append(many.Edges, trans.Edge{From: 4, Letter: 'b', To: 1})
	out["21 edges"] = many
	return out
}

// P3.1: functions that take machines return ErrMachine first.
func TestNoMachine(t *testing.T) {
	for name, m := range broken() {
		for call, f := range calls(m) {
			r, e := f()
			refused(t, call+" of "+name, api.ErrMachine, e, r...)
		}
		list, e := trans.Outputs(m, "x")
		refused(t, "Outputs of no word of "+name, api.ErrMachine, e, list)
		word, same, e := trans.Same(m, forked())
		refused(t, "Same of "+name+" and one that is not sequential", api.ErrMachine, e, word, same)
		word, same, e = trans.Same(forked(), m)
		refused(t, "Same of one that is not sequential and "+name, api.ErrMachine, e, word, same)
	}
}

// P3.1: the outputs of a word.
func TestOutputs(t *testing.T) {
	for _, x := range []struct {
		m    trans.Machine
		w    string
		want []string
	}{
		{plain(), "ab", []string{"xy"}}, {plain(), "", []string{""}}, {plain(), "abbaabbaab", []string{"xyyxxyyxxy"}}, {forked(), "aa", []string{"xx", "xy", "yx", "yy"}}, {forked(), "b", nil},
		{twinless(), "aab", []string{"xx"}}, {twinless(), "aa", []string{"yy"}}, {twinless(), "", nil}, {twinless(), "ba", nil},
		{machine(1, "x xyy", "0ay0", "1a0"), "aa", []string{"yx"}}, {machine(1, "x xyy", "0ay0", "1a0"), "", []string{"xyy"}},
		// one output of two runs, once; in the order of strings, not by length
		{machine(0, "- . .", edges("0ax1 0ax2")...), "a", []string{"x"}}, {machine(0, "- y yy x", edges("0ax1 0a2 0axxx3")...), "a", []string{"xxxx", "xy", "yy"}},
	} {
		if list, e := trans.Outputs(x.m, x.w); !slices.Equal(list, x.want) || e != api.OK {
			t.Errorf("%q of %s: %q, %d", x.w, show(x.m), list, e)
		}
	}
}

func TestOutputsRandom(t *testing.T) {
	random := rand.New(rand.NewSource(31))
	several := 0
	for range 600 {
		m := someMachine(random, 1+random.Intn(5), 12, random.Intn(4))
		for range 10 {
			w := some(random, "ab", 5)
			want := outputs(m, w)
			list, e := trans.Outputs(m, w)
			if len(want) > 1000 {
				refused(t, show(m), api.ErrLarge, e, list)
			} else if !slices.Equal(list, want) || e != api.OK {
				t.Fatalf("%q of %s: %d outputs, %d, not %d", w, show(m), len(list), e, len(want))
			} else if len(want) > 1 {
				several++
			}
		}
	}
	if several < 200 {
		t.Errorf("only %d words with several outputs", several)
	}
}

// P3.1: words that are none, and too many outputs.
func TestOutputsRefused(t *testing.T) {
	ten := strings.Repeat("ab", 5)
	for _, w := range []string{"c", "x", "abA", "a b", "é", "\xff", "a\x00", ten + "a", strings.Repeat("a", 1000), strings.Repeat("a", 10) + "c"} {
		for _, m := range []trans.Machine{plain(), forked(), machine(0, "-")} {
			list, e := trans.Outputs(m, w)
			refused(t, "Outputs of "+w, api.ErrWord, e, list)
		}
	}
	long := strings.Repeat("a", 10)
	list, e := trans.Outputs(forked(), long)
	refused(t, "1024 outputs", api.ErrLarge, e, list)
	if list, e := trans.Outputs(forked(), long[:9]); len(list) != 512 || e != api.OK {
		t.Errorf("512 outputs: %d, %d", len(list), e)
	}
	every := machine(0, ".", edges("0a0 0ax0 0axx0 0axxx0 0axxy0 0axy0 0axyx0 0axyy0 0ay0 0ayx0 0ayxx0 0ayxy0 0ayy0 0ayyx0 0ayyy0")...)
	list, e = trans.Outputs(every, long)
	refused(t, "very many outputs", api.ErrLarge, e, list)
	// the runs with many outputs do not end
	if list, e := trans.Outputs(machine(0, "- . -", edges("0ax1 0ax2 0ay2 1ay1 2a2 2ax2 2axx2 2axxx2 2axxy2 2axy2 2axyx2 2axyy2 2ay2 2b1")...), long); !slices.Equal(list, []string{"xyyyyyyyyy"}) || e != api.OK {
		t.Errorf("one output: %q, %d", list, e)
	}
}

// P3.1: 1000 outputs are not too many, 1001 are: abbb has 8 for the letter a, by 5 for each letter b.
func TestThousandOutputs(t *testing.T) {
	eight, five := "0axxx0 0axxy0 0axyx0 0axyy0 0ayxx0 0ayxy0 0ayyx0 0ayyy0", " 0bxx0 0bxy0 0byx0 0byyx0 0byyy0"
	for _, x := range []struct {
		m    trans.Machine
		want int
	}{
		{machine(0, ".", edges(eight+five)...), 1000},
		{machine(0, ". .", edges(eight+five+" 0bxx1 0bxy1 0byx1 0byyx1 0byyy1")...), 1000}, // two states with the same outputs
		{machine(0, ". .", edges(eight+" 0a1"+five+" 1b1")...), 0},                         // one more, of another state
		{machine(0, ". - .", edges(eight+" 0a1"+five+" 1b1")...), 1000},                    // one more, of a run that is not accepted
	} {
		m := x.m
		m.Edges = sorted(m.Edges)
		list, e := trans.Outputs(m, "abbb")
		if x.want == 0 {
			refused(t, show(m), api.ErrLarge, e, list)
		} else if len(list) != x.want || !slices.Equal(list, outputs(m, "abbb")) || e != api.OK {
			t.Errorf("%s: %d outputs, %d", show(m), len(list), e)
		}
		if list, e := trans.Outputs(m, "abb"); len(list) < 200 || !slices.Equal(list, outputs(m, "abb")) || e != api.OK {
			t.Errorf("%s: %d outputs, %d", show(m), len(list), e)
		}
	}
}

// P3.1: the states that an accepted run goes through.
func TestUseful(t *testing.T) {
	for _, x := range []struct {
		m    trans.Machine
		want []int
	}{
		{plain(), []int{0}}, {twinless(), []int{0, 1, 2, 3}}, {machine(0, "-"), nil}, {machine(0, "- ."), nil}, {machine(1, "- ."), []int{1}},
		{machine(3, "- . - -", edges("0a1 2a1 3a2")...), []int{1, 2, 3}}, {machine(0, ". - . .", edges("0a1 1b1 2a0 3a2")...), []int{0}}, {machine(0, "- - - - .", edges("0a1 1a2 2a3 3a4")...), []int{0, 1, 2, 3, 4}}, {machine(4, "- - - - .", edges("0a1 1a2 2a3 3a4")...), []int{4}},
		{machine(4, ". - - - -", edges("1a0 2a1 3a2 4a3")...), []int{0, 1, 2, 3, 4}},
	} {
		if list, e := trans.Useful(x.m); !slices.Equal(list, x.want) || e != api.OK {
			t.Errorf("%s: %v, %d", show(x.m), list, e)
		}
	}
}

// usefulByRuns looks for accepted runs: none needs more than four letters before a state, and four after it.
func usefulByRuns(m trans.Machine) []int {
	reach := func(from int) map[int]bool {
		out := map[int]bool{from: true}
		for range len(m.Ends) {
			for _, e := range m.Edges {
				if out[e.From] {
					out[e.To] = true
				}
			}
		}
		return out
	}
	var out []int
	for q := range m.Ends {
		ends := slices.ContainsFunc(slices.Collect(func(yield func(int) bool) {
			for p := range reach(q) {
				if !yield(p) {
					return
				}
			}
		}), func(p int) bool { return m.Ends[p].Final })
		if reach(m.Start)[q] && ends {
			out = append(out, q)
		}
	}
	return out
}

func TestUsefulRandom(t *testing.T) {
	random := rand.New(rand.NewSource(33))
	for range 3000 {
		m := someMachine(random, 1+random.Intn(5), 8, 1)
		if list, e := trans.Useful(m); !slices.Equal(list, usefulByRuns(m)) || e != api.OK {
			t.Fatalf("%s: %v, %d", show(m), list, e)
		}
	}
}

// P3.1: which machines are sequential.
func TestSequential(t *testing.T) {
	for _, x := range []struct {
		m    trans.Machine
		want bool
	}{
		{plain(), true}, {forked(), false}, {twinless(), false}, {machine(0, "-"), true}, {full(), false},
		// also if the edges are the same but for To or Output, and if they are of no use
		{machine(0, ". .", edges("0a0 0a1")...), false}, {machine(0, ". -", edges("1b1 1bx1")...), false}, {machine(0, ". -", edges("0a0 0b0 1a0 1b0")...), true}, {machine(0, ". .", edges("0a0 1a0")...), true}, {machine(0, ". .", edges("0a0 0b0 0b1")...), false},
	} {
		if is, e := trans.Sequential(x.m); is != x.want || e != api.OK {
			t.Errorf("%s: %v, %d", show(x.m), is, e)
		}
	}
}

// R4: no call changes a machine, or reads beyond its slices.
func TestArguments(t *testing.T) {
	for _, make := range []func() trans.Machine{plain, forked, twinless, full} {
		m := make()
		m.Edges = append(m.Edges, trans.Edge{From: 9, Letter: 'z'})[:len(m.Edges)]
		m.Ends = append(m.Ends, trans.End{After: "z"})[:len(m.Ends)]
		for name, call := range calls(m) {
			call()
			if !reflect.DeepEqual(m, make()) || m.Edges[:len(m.Edges)+1][len(m.Edges)].Letter != 'z' || m.Ends[:len(m.Ends)+1][len(m.Ends)].After != "z" {
				t.Fatalf("%s changed %s", name, show(make()))
			}
		}
	}
}

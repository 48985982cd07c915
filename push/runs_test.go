package push_test

import (
	"fmt"
	"math/rand"
	"slices"
	"strings"
	"testing"

	"squeegee/api"
	"squeegee/push"
)

// P4.3: runs, and where there is none.
func TestRun(t *testing.T) {
	for _, x := range []struct {
		s    push.System
		c, d string
		want string // the rules of the only run, or nothing
	}{
		{first(), "0a", "0b", "[0 1]"}, {first(), "0a", "0", "[0 1 1]"}, {first(), "0a", "0a", "[]"}, {first(), "0", "0", "[]"}, {first(), "0a", "0bbb", ""}, {first(), "0", "0a", ""}, {first(), "0b", "0a", ""},
		{twice(), "0ab", "0a", "[0 1]"}, {twice(), "0ab", "1", "[0 1 0]"}, {twice(), "0ab", "0", ""}, {twice(), "0aa", "1", ""}, {twice(), "0aa", "1a", "[0]"},
		{growing(), "0a", "0aaa", "[0 0]"}, {growing(), "0aab", "0aaab", "[0]"}, {growing(), "0aaa", "0aa", ""}, {growing(), "0a", "0" + strings.Repeat("a", 20), fmt.Sprint(make([]int, 19))},
		// the same letters, other controls
		{system(2, "0a1"), "0a", "0", ""}, {system(2, "0a1a"), "0a", "1a", "[0]"}, {system(2, ""), "0a", "1a", ""}, {system(2, ""), "1a", "1a", "[]"},
		// only after the stack was higher; and lower than at both ends
		{system(2, "0a0aa 0a1 1a1"), "0a", "1", "[1]"}, {system(3, "0a1ba 1b2c 2c2 2a0d"), "0a", "0d", "[0 1 2 3]"}, {system(2, "0a1 1b0ca 0c0 1a0"), "0ab", "0a", "[0 1 2]"},
		// what is below is not touched
		{system(1, "0a0"), "0ab", "0b", "[0]"}, {system(1, "0a0"), "0ab", "0", ""}, {system(1, "0a0 0b0b"), "0abbb", "0bb", ""},
	} {
		run, e := checkRun(t, x.s, config(x.c), config(x.d))
		is := reaches(t, x.s, config(x.c), config(x.d))
		if e != api.OK || is != (x.want != "") || is && fmt.Sprint(run) != x.want {
			t.Errorf("%v, %s, %s: %v, %v", x.s, x.c, x.d, is, run)
		}
	}
}

// ladder needs 95, 47, 23, 11, 5 steps to take a letter a, b, c, d, e away.
func ladder() push.System {
	return system(5, "0a0bb 0b0cc 0c0dd 0d0ee 0e1e 1e2e 2e3e 3e4e 4e0")
}

// P4.3: runs of at most 1000 steps are found, longer ones are too large.
func TestLongRuns(t *testing.T) {
	for _, x := range []struct {
		c, d string
		want int // 0 if there is no run that is short enough
	}{
		{"0" + strings.Repeat("a", 10) + strings.Repeat("e", 10), "0", 1000}, {"0" + strings.Repeat("a", 10) + "cce", "0", 0}, {"0" + strings.Repeat("a", 10) + "ccb", "0b", 996}, {"0aaaaaaaaaabc", "0e", 0},
		{"0" + strings.Repeat("a", 10) + "bd", "4e", 0}, {"0" + strings.Repeat("a", 10) + "be", "1e", 998}, {"0" + strings.Repeat("a", 10) + "be", "3e", 1000}, {"0" + strings.Repeat("a", 10) + "be", "4e", 0}, {"0" + strings.Repeat("a", 20), "0", 0}, {"0" + strings.Repeat("a", 20), "1eedcb" + strings.Repeat("a", 9), 955},
	} {
		run, e := checkRun(t, ladder(), config(x.c), config(x.d))
		if len(run) != x.want || (e == api.ErrLarge) != (x.want == 0) {
			t.Errorf("%s, %s: %d, %d", x.c, x.d, len(run), e)
		}
	}
	// one rule more makes it short
	s := ladder()
	s.Rules = append(s.Rules, push.Rule{Top: 'b'})
	if run, e := checkRun(t, s, config("0"+strings.Repeat("a", 20)), config("0")); e != api.OK {
		t.Errorf("%v, %d", run, e)
	}
	// and other ways make it no longer: the first rules found need more steps
	s = ladder()
	s.Rules = append(s.Rules, system(5, "0c0aa 0e0aa 0b0aa 0d0bb 1e0ee").Rules...)
	if run, e := checkRun(t, s, config("0"+strings.Repeat("a", 10)+strings.Repeat("e", 10)), config("0")); len(run) != 1000 || e != api.OK {
		t.Errorf("%v, %d", run, e)
	}
}

// P4.3: far too long runs are too large, too.
func TestHugeRuns(t *testing.T) {
	// e at the control 0, and d at the others, calls the next control, where e returns: 149791 steps for a letter a
	s := system(5, "0a0bb 0b0cc 0c0dd 0d0ee 0e1ae 1a1bb 1b1cc 1c1dd 1d2ae 1e0 2a2bb 2b2cc 2c2dd 2d3ae 2e1 3a3bb 3b3cc 3c3dd 3d4ae 3e2 4a4bb 4b4cc 4c4dd 4d4 4e3")
	for _, x := range [][2]string{{"0a", "0"}, {"0" + strings.Repeat("a", 20), "0"}, {"1a", "1"}, {"0e", "0"}, {"2aa", "2"}} {
		if _, e := checkRun(t, s, config(x[0]), config(x[1])); e != api.ErrLarge {
			t.Errorf("%v: %d", x, e)
		}
	}
	for _, x := range []struct {
		c, d string
		want int
	}{{"4a", "4", 15}, {"3d", "3", 17}, {"3a", "3", 143}, {"3" + strings.Repeat("a", 6) + "cccc", "3", 6*143 + 4*35}, {"2d", "2", 145}, {"2cd", "4aecd", 0}} {
		run, e := checkRun(t, s, config(x.c), config(x.d))
		if len(run) != x.want || e != api.OK {
			t.Errorf("%s, %s: %v, %d", x.c, x.d, run, e)
		}
	}
}

// P4.3: Reaches and Run are compared with what is reached through stacks that are not high.
func TestRunRandom(t *testing.T) {
	random := rand.New(rand.NewSource(57))
	found := map[bool]int{}
	missed := 0
	for range 400 {
		kinds := 1 + random.Intn(3)
		s := someSystem(random, 1+random.Intn(3), kinds, 9)
		c := someConfig(random, s.Controls, kinds, 4)
		far, all := explore(s, c, 7)
		for _, d := range configs(s.Controls, kinds, 3) {
			run, e := checkRun(t, s, c, d)
			is := reaches(t, s, c, d)
			least, reached := far[d]
			if reached && (!is || e != api.OK || len(run) > least) || all && is && !reached {
				t.Fatalf("%v, %v, %v: %v, %d in %d steps, %v", s, c, d, is, e, least, run)
			}
			if is && !reached {
				missed++
			}
			found[is]++
		}
	}
	if found[true] < 1000 || found[false] < 1000 || missed > 10 {
		t.Error(found, missed)
	}
}

// P4.3: runs of large systems, also of high stacks.
func TestRunLarge(t *testing.T) {
	random := rand.New(rand.NewSource(58))
	found := map[bool]int{}
	for range 600 {
		s := someSystem(random, 1+random.Intn(5), 5, 30)
		c := someConfig(random, s.Controls, 5, 20)
		d := c
		for range random.Intn(60) {
			if list := steps(s, d); len(list) > 0 {
				d = list[random.Intn(len(list))]
			}
		}
		if len(d.Stack) > 20 {
			continue
		}
		if !reaches(t, s, c, d) {
			t.Fatalf("%v, %v, %v", s, c, d)
		}
		checkRun(t, s, c, d)
		checkRun(t, s, d, c)
		if c != d {
			found[reaches(t, s, d, c)]++
		}
	}
	if found[true] < 30 || found[false] < 50 {
		t.Error(found)
	}
}

// P4.3: what is a run.
func TestIsRun(t *testing.T) {
	loop := system(2, "0a1a 1a0a 0a0a")
	for _, x := range []struct {
		s    push.System
		c, d string
		run  []int
		want bool
	}{
		{first(), "0a", "0b", []int{0, 1}, true}, {first(), "0a", "0b", []int{0}, false}, {first(), "0a", "0b", []int{0, 1, 1}, false}, {first(), "0a", "0b", []int{1, 0}, false}, {first(), "0a", "0bb", []int{0}, true},
		{first(), "0a", "0", []int{0, 1, 1}, true}, {first(), "0a", "0", []int{0, 1, 1, 1}, false}, {first(), "0a", "0a", nil, true}, {first(), "0a", "0b", nil, false}, {first(), "0", "0", nil, true}, {first(), "0", "0", []int{0}, false},
		{first(), "0a", "0b", []int{0, 2}, false}, {first(), "0a", "0b", []int{0, -1}, false}, {first(), "0a", "0b", []int{1 << 62, -1 << 63}, false},
		{twice(), "0ab", "0a", []int{0, 1}, true}, {twice(), "0ab", "1a", []int{0, 1}, false}, {twice(), "1b", "0a", []int{1}, true}, {twice(), "0b", "0a", []int{1}, false}, {twice(), "0aa", "1", []int{0, 0}, false},
		{loop, "0a", "0a", []int{0, 1}, true}, {loop, "0a", "1a", []int{0, 1}, false}, {loop, "0a", "0a", []int{2, 2, 0, 1, 2}, true},
		// stacks on the way may be higher than those that are given
		{growing(), "0a", "0" + strings.Repeat("a", 20), make([]int, 19), true}, {growing(), "0a", "0" + strings.Repeat("a", 21), make([]int, 20), false}, {system(1, "0a0aa 0a0b 0b0"), "0aaaaaaaaaaaaaaaaaaaa", "0aaaaaaaaaaaaaaaaaaaa", []int{0, 0, 0, 1, 2, 1, 2, 1, 2}, true},
		// their length
		{loop, "0a", "0a", slices.Repeat([]int{2}, 1000), true}, {loop, "0a", "0a", slices.Repeat([]int{2}, 1001), false}, {loop, "0a", "0a", slices.Repeat([]int{0, 1}, 500), true}, {loop, "0a", "0a", slices.Repeat([]int{0, 1}, 501), false},
	} {
		if is := push.IsRun(x.s, config(x.c), config(x.d), x.run); is != x.want {
			t.Errorf("%v, %s, %s, %v: %v", x.s, x.c, x.d, x.run, is)
		}
	}
}

// P4.3: what is a run, of any rules.
func TestIsRunRandom(t *testing.T) {
	random := rand.New(rand.NewSource(59))
	found := map[bool]int{}
	for range 5000 {
		s := someSystem(random, 1+random.Intn(2), 2, 12)
		c := someConfig(random, s.Controls, 2, 4)
		d := c
		var run []int
		for i := 0; i < 8 && len(s.Rules) > 0; i++ {
			k := random.Intn(len(s.Rules))
			if next, ok := step(s.Rules[k], d); ok {
				d = next
				run = append(run, k)
			} else if random.Intn(20) == 0 {
				run = append(run, k)
			}
		}
		if random.Intn(4) == 0 {
			d = someConfig(random, s.Controls, 2, 4)
		}
		is := push.IsRun(s, c, d, run)
		if is != leads(s, c, d, run) {
			t.Fatalf("%v, %v, %v, %v: %v", s, c, d, run, is)
		}
		found[is]++
	}
	if found[true] < 1000 || found[false] < 1000 {
		t.Error(found)
	}
}

// P4.6: what is reached from what is reached is reached.
func TestReachesLaw(t *testing.T) {
	random := rand.New(rand.NewSource(60))
	found := 0
	for range 3000 {
		s := someSystem(random, 1+random.Intn(3), 2, 12)
		c, d, f := someConfig(random, s.Controls, 2, 4), someConfig(random, s.Controls, 2, 4), someConfig(random, s.Controls, 2, 4)
		if reaches(t, s, c, d) && reaches(t, s, d, f) {
			if !reaches(t, s, c, f) {
				t.Fatalf("%v, %v, %v, %v", s, c, d, f)
			}
			found++
		}
	}
	if found < 300 {
		t.Error(found)
	}
}

// P4.6: a run to the empty stack does not touch what is put below, and the other way round.
func TestBelowLaw(t *testing.T) {
	random := rand.New(rand.NewSource(61))
	found := 0
	for range 3000 {
		s := someSystem(random, 1+random.Intn(3), 3, 15)
		c, d := someConfig(random, s.Controls, 3, 6), push.Config{Control: random.Intn(s.Controls)}
		run, yes, _ := push.Run(s, c, d)
		below := some(random, 5, 14)
		lower, last := push.Config{Control: c.Control, Stack: c.Stack + below}, push.Config{Control: d.Control, Stack: below}
		if yes != push.IsRun(s, lower, last, run) && (yes || len(run) > 0) || yes && !reaches(t, s, lower, last) {
			t.Fatalf("%v, %v, %v, %s: %v", s, c, d, below, run)
		}
		if yes && len(run) > 0 {
			found++
		}
		again, is, _ := push.Run(s, lower, last)
		if is && above(s, lower, again, len(below)) && !push.IsRun(s, c, d, again) {
			t.Fatalf("%v, %v, %v, %s: %v", s, c, d, below, again)
		}
	}
	if found < 500 {
		t.Error(found)
	}
}

// above reports whether each stack of a run before the last one is higher than that.
func above(s push.System, c push.Config, run []int, height int) bool {
	for _, i := range run {
		if len(c.Stack) <= height {
			return false
		}
		c, _ = step(s.Rules[i], c)
	}
	return true
}

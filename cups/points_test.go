package cups_test

import (
	"fmt"
	"math"
	"math/rand"
	"slices"
	"testing"

	"squeegee/api"
	"squeegee/cups"
)

// outOfRange are numbers that are not from -1000 to 1000.
var outOfRange = []int{1001, -1001, 1 << 16, math.MinInt32, 1 << 32, -1 << 32, 1<<32 + 1, math.MaxInt, math.MinInt}

// notPoints are lists that are not points, some of them with three points on a line.
func notPoints() map[string][][2]int {
	random := rand.New(rand.NewSource(1))
	out := map[string][][2]int{"nil": nil, "none": {}, "15 points": somePoints(random, 15, 1000), "15 general points": onCurve(random, 15, 1), "1000 points": somePoints(random, 1000, 1000), "15 points out of range": somePoints(random, 15, 1<<40)}
	for _, s := range []string{"0 0;0 0", "3 4;3 4;5 6", "3 4;5 6;3 4", "5 6;3 4;3 4", "0 0;1 1;2 2;0 0", "-1 2;2 -1;1 -2;-1 2"} {
		out[s] = points(s)
	}
	for _, n := range outOfRange {
		for where := range 6 {
			l := points("0 0;1 2;4 9")
			l[where/2][where%2] = n
			out[fmt.Sprint(l)] = l
		}
		out[fmt.Sprint(n, " alone")] = [][2]int{{n, 0}}
	}
	return out
}

// P9.1: Check.
func TestCheck(t *testing.T) {
	random := rand.New(rand.NewSource(2))
	for _, s := range []string{"0 0", "1000 1000", "-1000 1000;1000 -1000;-1000 -1000;1000 1000", "0 0;0 1", "0 0;1 0", "1 2;2 1", "-1 2;1 -2;1 2;-1 -2", "0 0;1 1;2 2", "0 0;1 1;2 0;3 1", "0 0;4 0;0 4;1 1"} {
		if e := cups.Check(points(s)); e != api.OK {
			t.Errorf("Check of %s: %d", s, e)
		}
	}
	for n := 1; n <= 14; n++ {
		if e := cups.Check(somePoints(random, n, 1000)); e != api.OK {
			t.Errorf("Check of %d points: %d", n, e)
		}
	}
	for name, l := range notPoints() {
		if e := cups.Check(l); e != api.ErrPoint {
			t.Errorf("Check of %s: %d", name, e)
		}
	}
}

// P9.1: ErrPoint comes first, whatever else is wrong.
func TestNoPoints(t *testing.T) {
	others := map[string][][2]int{"one": points("7 -7"), "two": points("7 -7;8 9"), "on a line": points("7 7;8 8;9 9"), "the same": points("0 0;1 2;4 9")}
	for name, l := range notPoints() {
		for other, m := range others {
			for called, call := range calls(l, m) {
				refuses(t, fmt.Sprintf("%s of %s, %s", called, name, other), api.ErrPoint, call)
			}
			refuses(t, fmt.Sprintf("Halve of %s, %s", other, name), api.ErrPoint, calls(m, l)["Halve"])
		}
		for called, is := range kinds {
			for _, list := range [][]int{nil, {0}, {0, 1}, {0, 1, 2}, {2, 1, 0}} {
				if is(l, list) {
					t.Errorf("%s of %s, %v", called, name, list)
				}
			}
		}
	}
}

// P9.1: General.
func TestGeneral(t *testing.T) {
	for _, x := range []struct {
		points string
		line   [3]int
	}{
		{"0 0;1 1;2 2", [3]int{0, 1, 2}}, {"2 2;0 0;1 1", [3]int{0, 1, 2}}, {"0 0;1 5;0 1;0 2", [3]int{0, 2, 3}}, {"0 0;1 0;0 1;5 0;0 5", [3]int{0, 1, 3}}, {"9 9;0 0;5 0;0 5;0 7;7 0", [3]int{1, 2, 5}}, {"0 0;3 3;1 0;0 1;2 2;-1 2", [3]int{0, 1, 4}}, {"0 0;1 2;5 -1;7 7;3 6;9 -5", [3]int{0, 1, 4}}, {"-1000 -1000;1000 999;1 0;1000 1000;999 999;0 0", [3]int{0, 3, 4}},
	} {
		if i, j, k, general, e := cups.General(points(x.points)); [3]int{i, j, k} != x.line || general || e != api.OK {
			t.Errorf("General of %s: %d, %d, %d, %t, %d", x.points, i, j, k, general, e)
		}
	}
	for _, s := range []string{"0 0", "0 0;1 1", "0 0;0 1", "0 0;1 1;1 2", "0 0;1 1;2 0;3 1", "0 0;4 0;0 4;1 1", "-1000 -1000;1000 999;0 0", "-1000 -1000;1000 1000;0 1", "-1000 -1000;999 1000;1000 999"} {
		if i, j, k, general, e := cups.General(points(s)); i != 0 || j != 0 || k != 0 || !general || e != api.OK {
			t.Errorf("General of %s: %d, %d, %d, %t, %d", s, i, j, k, general, e)
		}
	}
}

// P9.1: General of any points.
func TestAnyGeneral(t *testing.T) {
	random := rand.New(rand.NewSource(3))
	found := 0
	for r := range 4000 {
		l := somePoints(random, 1+random.Intn(14), []int{3, 6, 20, 100}[r%4])
		i, j, k, general := firstLine(l)
		a, b, c, is, e := cups.General(l)
		if i != a || j != b || k != c || general != is || e != api.OK {
			t.Fatalf("General of %v: %d, %d, %d, %t, %d", l, a, b, c, is, e)
		}
		if general {
			found++
		}
	}
	if found < 500 || found > 3500 {
		t.Errorf("%d lists are general", found)
	}
}

// P9.1: Turn.
func TestTurn(t *testing.T) {
	for _, x := range []struct {
		points string
		want   int
	}{
		{"0 0;1 0;0 1", 1}, {"0 0;0 1;1 0", -1}, {"0 0;1 1;2 2", 0}, {"0 0;2 2;1 1", 0}, {"0 0;1 0;2 1", 1}, {"0 0;1 0;2 -1", -1}, {"0 0;1 0;-1 1", 1}, {"0 0;1 0;-1 -1", -1}, {"5 5;5 5;5 5", 0}, {"5 5;5 5;7 8", 0}, {"5 5;7 8;5 5", 0}, {"7 8;5 5;5 5", 0},
		{"-1000 -1000;1000 1000;0 1", 1}, {"-1000 -1000;1000 1000;1 0", -1}, {"-1000 -1000;999 1000;1000 1000", -1}, {"-1000 -1000;1000 999;1000 1000", 1}, {"-1000 1000;1000 -1000;0 0", 0}, {"1000 -1000;1000 1000;-1000 1000", 1}, {"-1000 -1000;-1000 1000;1000 1000", -1}, {"-1000 -1000;0 0;1000 999", -1},
	} {
		l := points(x.points)
		if got, e := cups.Turn(l[0], l[1], l[2]); got != x.want || e != api.OK {
			t.Errorf("Turn of %s: %d, %d", x.points, got, e)
		}
	}
	random := rand.New(rand.NewSource(4))
	for r := range 20000 {
		most := []int{1, 3, 30, 1000}[r%4]
		a, b, c := somePoints(random, 1, most)[0], somePoints(random, 1, most)[0], somePoints(random, 1, most)[0]
		if got, e := cups.Turn(a, b, c); got != turnOf(a, b, c) || e != api.OK {
			t.Fatalf("Turn of %v, %v, %v: %d, %d", a, b, c, got, e)
		}
	}
	for _, n := range outOfRange {
		for where := range 6 {
			l := points("0 0;1 2;4 9")
			l[where/2][where%2] = n
			if got, e := cups.Turn(l[0], l[1], l[2]); got != 0 || e != api.ErrArg {
				t.Errorf("Turn of %v: %d, %d", l, got, e)
			}
		}
	}
}

// P9.1: what is not general is refused by all other calls.
func TestNotGeneral(t *testing.T) {
	random := rand.New(rand.NewSource(5))
	lists := [][][2]int{points("0 0;1 1;2 2"), points("0 0;1 5;2 2;1 1"), points("0 0;5 1;7 3;0 9;0 4")}
	for len(lists) < 40 {
		if l := somePoints(random, 3+random.Intn(12), 6); !isGeneral(l) {
			lists = append(lists, l)
		}
	}
	for _, l := range lists {
		for called, call := range calls(l, points("907 -1000")) {
			if called != "Check" && called != "General" {
				refuses(t, fmt.Sprintf("%s of %v", called, l), api.ErrArg, call)
			}
		}
		for called, is := range kinds {
			for i := range l {
				for j := range l {
					if is(l, inOrder(l, []int{i, j})) || is(l, around(l, []int{i, j, (i + 1) % len(l)})) || is(l, inOrder(l, []int{i, j, (j + 1) % len(l)})) {
						t.Fatalf("%s of %v and some with %d, %d", called, l, i, j)
					}
				}
			}
		}
	}
}

func isGeneral(l [][2]int) bool {
	_, _, _, general := firstLine(l)
	return general
}

// P9.2, P9.3: too few points; those that have none of a kind.
func TestFewPoints(t *testing.T) {
	one, two := points("5 -3"), points("5 -3;5 4")
	for called, call := range calls(one, one) {
		if slices.Contains([]string{"Cup", "Cap", "Polygon", "Empty"}, called) {
			refuses(t, called+" of one point", api.ErrArg, call)
		}
	}
	for called, call := range calls(two, one) {
		if slices.Contains([]string{"Polygon", "Empty"}, called) {
			refuses(t, called+" of two points", api.ErrArg, call)
		}
	}
	for called, is := range kinds {
		for _, list := range [][]int{nil, {}, {0}, {0, 0}, {0, 0, 0}} {
			if is(one, list) || is(two, list) {
				t.Errorf("%s of %v", called, list)
			}
		}
	}
	for _, list := range [][]int{{0, 1}, {1, 0}, {0, 1, 0}, {0, 1, 1}} {
		bent := len(list) == 2 && list[0] == 0
		if cups.IsCup(two, list) != bent || cups.IsCap(two, list) != bent || cups.IsPolygon(two, list) || cups.IsEmpty(two, list) {
			t.Errorf("two points and %v", list)
		}
	}
}

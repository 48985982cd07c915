package cups_test

import (
	"fmt"
	"math/rand"
	"reflect"
	"slices"
	"strings"
	"testing"

	"squeegee/api"
	"squeegee/cups"
)

// P9.4: Layers.
func TestLayers(t *testing.T) {
	for _, x := range []struct{ points, layers string }{
		{"0 0;4 0;0 4;1 1", "0 1 2;3"}, {"0 0;1 1;2 0;3 1", "0 2 3 1"}, // the chapter's
		{"5 5", "0"}, {"0 0;1 1", "0 1"}, {"1 1;0 0", "1 0"}, {"0 1;0 0", "1 0"}, {"0 0;0 1", "0 1"}, {"0 0;0 1;1 0", "0 2 1"}, {"1 0;0 1;0 0", "2 0 1"},
		{"0 0;9 0;0 9;2 1;1 3", "0 1 2;4 3"}, {"0 0;9 0;0 9;1 3;2 1", "0 1 2;3 4"}, {"2 2;0 0;9 0;0 9;2 1", "1 2 3;4 0"}, {"0 0;20 0;0 20;1 2;9 3;3 10", "0 1 2;3 4 5"}, {"3 10;0 0;9 3;20 0;1 2;0 20;4 6", "1 3 5;4 2 0;6"}, {"-10 -9;10 -10;11 10;-9 11;0 1", "0 1 2 3;4"}, {"-1000 -1000;1000 -1000;1000 1000;-1000 1000;1 0;-1 2", "0 1 2 3;5 4"},
	} {
		var want [][]int
		for _, s := range strings.Split(x.layers, ";") {
			want = append(want, ints(s))
		}
		if got, e := cups.Layers(points(x.points)); !reflect.DeepEqual(got, want) || e != api.OK {
			t.Errorf("Layers of %s: %v, %d", x.points, got, e)
		}
	}
	numbers := map[int]int{}
	for _, l := range examples(rand.New(rand.NewSource(10)), 3000, 1, 14) {
		got, e := cups.Layers(l)
		if !reflect.DeepEqual(got, layersBy(l)) || e != api.OK {
			t.Fatalf("Layers of %v: %v, %d", l, got, e)
		}
		numbers[len(got)]++
	}
	if numbers[4] < 50 || numbers[5] == 0 {
		t.Errorf("so many lists have so many layers: %v", numbers)
	}
}

// P9.4: Edges, Crossings and Squares.
func TestCounts(t *testing.T) {
	for _, x := range []struct {
		points, edges string
		crossings     int
	}{
		{"0 0;1 1;2 0;3 1", "4 2", 1}, {"0 0;4 0;0 4;1 1", "3 3", 0}, // the chapter's
		{"5 5", "", 0}, {"0 0;1 1", "1", 0}, {"0 0;0 1", "1", 0}, {"0 0;1 0;0 1", "3", 0}, {"0 10;-10 3;-6 -8;6 -8;10 3", "5 5", 5}, {"-10 -9;10 -10;11 10;-9 11;0 1", "4 6", 3}, {"0 0;9 0;0 9;2 1;1 3", "3 7", 1}, {"0 0;20 0;0 20;1 2;9 3;3 10", "3 6 6", 3},
		{"0 0;1 1;2 4;3 9;4 16;5 25;6 36;7 49;8 64;9 81;10 100;11 121;12 144;13 169", "14 14 14 14 14 14 7", 1001}, {"0 0;1 1;2 4;3 9;4 16;5 25;6 36;7 49;8 64;9 81;10 100;11 121;12 144", "13 13 13 13 13 13", 715},
	} {
		l := points(x.points)
		edges, e := cups.Edges(l)
		crossings, f := cups.Crossings(l)
		squares, g := cups.Squares(l)
		if !slices.Equal(edges, ints(x.edges)) || crossings != x.crossings || squares != x.crossings || e != api.OK || f != api.OK || g != api.OK {
			t.Errorf("of %s: Edges %v, Crossings %d, Squares %d", x.points, edges, crossings, squares)
		}
	}
}

// P9.4, P9.7: Edges, Crossings and Squares of any points by their definitions, and what follows from one another.
func TestAnyCounts(t *testing.T) {
	random := rand.New(rand.NewSource(11))
	for _, l := range append(examples(random, 1000, 1, 11), examples(random, 20, 14, 14)...) {
		n := len(l)
		edges := must[[]int](t)(cups.Edges(l))
		crossings, squares := must[int](t)(cups.Crossings(l)), must[int](t)(cups.Squares(l))
		if !slices.Equal(edges, edgesBy(l)) || len(edges) != n/2 || crossings != crossingsBy(l) || squares != squaresBy(l) {
			t.Fatalf("of %v: Edges %v, Crossings %d, Squares %d", l, edges, crossings, squares)
		}
		sum, weighed := 0, 0
		for k, number := range edges {
			sum, weighed = sum+number, weighed+number*k*(n-2-k)
		}
		if crossings != squares || sum != binomial(n, 2) || crossings != 3*binomial(n, 4)-weighed {
			t.Fatalf("of %v: Edges %v, Crossings %d, Squares %d", l, edges, crossings, squares)
		}
	}
}

// checkHalve checks a line by the definition.
func checkHalve(t *testing.T, l, m [][2]int) {
	t.Helper()
	line, e := cups.Halve(l, m)
	if e != api.OK || !slices.Contains(l, line[0]) || !slices.Contains(m, line[1]) || !isHalving(line, l) || !isHalving(line, m) {
		t.Fatalf("Halve of %v, %v: %v, %d", l, m, line, e)
	}
}

// P9.5: Halve.
func TestHalve(t *testing.T) {
	for _, x := range []struct{ l, m string }{
		{"0 0", "0 1"}, {"0 0", "1 0"}, {"5 5", "-1000 1000"}, {"0 0", "1 1;2 3;3 7"}, {"0 0;1 0;0 1", "9 9"}, {"0 0;1 0;0 1", "9 9;8 5;20 -3"}, {"0 0;1 0;0 1", "-3 5;100 -7;20 -60"}, {"-1000 -1000;1000 -1000;0 1000", "1 0;-1 1;2 3"},
	} {
		checkHalve(t, points(x.l), points(x.m))
		checkHalve(t, points(x.m), points(x.l))
	}
	if line, e := cups.Halve(points("0 0"), points("0 1")); line != [2][2]int{{0, 0}, {0, 1}} || e != api.OK {
		t.Errorf("Halve: %v, %d", line, e)
	}
	random := rand.New(rand.NewSource(12))
	for r := range 1500 {
		i, j := 1+2*random.Intn(7), 1+2*random.Intn(7)
		all := someGeneral(random, i+j, []int{30, 60, 1000}[r%3])
		if r%5 == 0 { // the lists far from each other
			slices.SortFunc(all, func(p, q [2]int) int { return p[0] - q[0] })
		}
		checkHalve(t, all[:i], all[i:])
	}
	for range 50 {
		all := someGeneral(random, 26, 1000)
		checkHalve(t, all[:13], all[13:])
	}
}

// P9.5: the errors of Halve.
func TestWrongHalve(t *testing.T) {
	for _, x := range []struct{ l, m string }{
		{"0 0;1 0", "9 9"}, {"9 9", "0 0;1 0"}, {"0 0;1 0", "9 9;9 8"}, {"0 0;1 0;0 1;-1 -1", "9 8"}, {"9 8", "0 0;1 0;0 1;-1 -1"}, // even numbers
		{"0 0", "0 0"}, {"0 0;1 0;0 1", "0 1"}, {"0 0;1 0;0 1", "5 7;1 0;9 3"}, {"0 0;1 0;0 1", "0 0;1 0;0 1"}, // not different
		{"0 0;1 1;2 2", "9 8"}, {"9 8", "0 0;1 1;2 2"}, {"0 0;1 0;0 1", "5 0"}, {"5 0", "0 0;1 0;0 1"}, {"0 0", "1 1;7 3;2 2"}, {"0 0;7 3;2 2", "-1 -1"}, // on a line
	} {
		refuses(t, fmt.Sprintf("Halve of %s, %s", x.l, x.m), api.ErrArg, calls(points(x.l), points(x.m))["Halve"])
	}
	random := rand.New(rand.NewSource(13))
	for i := 1; i <= 14; i++ {
		for j := 1; j <= 14; j++ {
			all := someGeneral(random, i+j, 1000)
			if i%2 == 1 && j%2 == 1 {
				checkHalve(t, all[:i], all[i:])
				continue
			}
			refuses(t, fmt.Sprintf("Halve of %d, %d points", i, j), api.ErrArg, calls(all[:i], all[i:])["Halve"])
		}
	}
	for range 500 {
		i, j := 1+2*random.Intn(7), 1+2*random.Intn(7)
		if all := somePoints(random, i+j, 8); isGeneral(all) {
			checkHalve(t, all[:i], all[i:])
		} else {
			refuses(t, fmt.Sprintf("Halve of %v, %v", all[:i], all[i:]), api.ErrArg, calls(all[:i], all[i:])["Halve"])
		}
	}
}

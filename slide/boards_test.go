package slide_test

import (
	"fmt"
	"math"
	"math/rand"
	"reflect"
	"slices"
	"strings"
	"testing"

	"squeegee/api"
	"squeegee/slide"
)

// notBoards are numbers of places and edges that are not those of a board.
func notBoards() map[string]facade {
	out := map[string]facade{}
	for _, x := range []struct {
		n     int
		edges string
	}{
		{2, ""}, {3, ""}, {9, ""}, {3, "01"}, {3, "12"}, {3, "02"}, {4, "01 23"}, {4, "01 02 12"}, {4, "12 13 23"}, {5, "01 02 12 34"}, {6, "01 02 12 34 35 45"}, {9, "01 12 23 34 45 56 67"}, {9, "08 12 23 34 45 56 67"}, // not connected
		{2, "01 01"}, {3, "01 01 12"}, {3, "01 12 12"}, {3, "01 02 12 12"}, {4, "01 12 12 23"}, // twice
		{3, "12 01"}, {3, "02 01"}, {3, "01 12 02"}, {4, "01 03 02 12"}, {4, "01 23 12"}, {3, "01 12 01"}, // not rising
		{2, "10"}, {3, "01 21"}, {3, "10 12"}, {4, "01 20 23"}, {2, "00 01"}, {2, "01 11"}, {3, "01 11 12"}, {3, "01 12 22"}, {3, "00 01 12"}, // i is not less than j
		{2, "02"}, {2, "01 02"}, {3, "01 12 23"}, {3, "01 03 12"}, {3, "01 12 33"}, {8, "01 12 23 34 45 56 67 78"}, // out of range
	} {
		out[fmt.Sprint(x.n, " places and ", x.edges)] = facade{x.n, ropes(x.edges)}
	}
	for _, bad := range []int{-1, -2, 3, 9, 10, 16, 17, 32, 33, 63, 64, 65, 1<<16 + 1, 1 << 32, 1<<32 + 1, math.MaxInt, math.MinInt} {
		for where := range 4 {
			edges := ropes("01 12")
			edges[where/2][where%2] = bad
			out[fmt.Sprint(edges)] = facade{3, edges}
		}
		longer := append(ropes("01 02 12"), [2]int{bad, bad + 1})
		out[fmt.Sprint(longer)] = facade{3, longer}
	}
	out["a million edges"] = facade{9, slices.Repeat(ropes("01"), 1000000)}
	return out
}

// P10.1: Check of what is a board, and of what is none.
func TestCheck(t *testing.T) {
	for _, x := range []struct {
		n     int
		edges string
	}{
		{2, "01"}, {3, "01 12"}, {3, "01 02"}, {3, "02 12"}, {3, "01 02 12"}, {4, "01 02 03"}, {4, "03 13 23"}, {4, "02 13 23"}, {4, "01 02 13 23"}, {7, "01 05 06 12 23 34 36 45"}, {9, "01 12 23 34 45 56 67 78"}, {9, "08 18 28 38 48 58 68 78"}, {9, "08 17 18 26 27 35 36 45"},
	} {
		if e := slide.Check(x.n, ropes(x.edges)); e != api.OK {
			t.Errorf("Check of %d, %s: %d", x.n, x.edges, e)
		}
	}
	for n := 2; n <= 9; n++ {
		for _, f := range []facade{full(n), star(n, n/2), grid(1, n)} {
			if e := slide.Check(f.n, f.edges); e != api.OK {
				t.Errorf("Check of %v: %d", f, e)
			}
		}
	}
	for name, f := range notBoards() {
		if e := slide.Check(f.n, f.edges); e != api.ErrBoard {
			t.Errorf("Check of %s: %d", name, e)
		}
	}
}

// P10.1: Check of all rising lists of edges of few places, and of the same in other orders.
func TestAllEdges(t *testing.T) {
	random := rand.New(rand.NewSource(1))
	for n := 2; n <= 5; n++ {
		all := full(n).edges
		for set := range 1 << len(all) {
			f := facade{n: n}
			for i, e := range all {
				if set>>i&1 == 1 {
					f.edges = append(f.edges, e)
				}
			}
			if is := slide.Check(n, f.edges) == api.OK; is != f.isConnectedWithout(-1) {
				t.Fatalf("Check of %v: %t", f, is)
			}
			mixed := slices.Clone(f.edges)
			random.Shuffle(len(mixed), func(i, j int) { mixed[i], mixed[j] = mixed[j], mixed[i] })
			if e := slide.Check(n, mixed); e != api.ErrBoard && !slices.Equal(mixed, f.edges) {
				t.Fatalf("Check of %d, %v: %d", n, mixed, e)
			}
		}
	}
}

// P10.1: a number of places that is out of range is the first error of all calls.
func TestSizes(t *testing.T) {
	for _, n := range notSizes {
		for _, edges := range []string{"", "01", "01 02 12", "12 01", "01 12 23 34 45 56 67 78"} {
			for _, p := range []string{"", "0", "01", "0123456789", "11"} {
				for name, call := range calls(n, ropes(edges), digits(p), digits(p), digits("1")) {
					refuses(t, fmt.Sprintf("%s of %d, %s, %s", name, n, edges, p), api.ErrArg, call)
				}
			}
		}
		for _, p := range []string{"", "0", "01", "012", "0123456789", "012345678"} {
			if e := slide.CheckPosition(n, digits(p)); e != api.ErrArg {
				t.Errorf("CheckPosition of %d, %s: %d", n, p, e)
			}
			if got, e := slide.Sign(n, digits(p), digits(p)); got != 0 || e != api.ErrArg {
				t.Errorf("Sign of %d, %s: %d, %d", n, p, got, e)
			}
		}
	}
}

// P10.1: what is not a board is refused before what is not a position.
func TestNoBoards(t *testing.T) {
	for name, f := range notBoards() {
		for _, p := range [][]int{nil, first(f.n), first(f.n + 1), make([]int, f.n), {-1, math.MaxInt}} {
			for called, call := range calls(f.n, f.edges, p, p, digits("1")) {
				refuses(t, fmt.Sprintf("%s of %s, %v", called, name, p), api.ErrBoard, call)
			}
		}
	}
}

// brief is a list as a string, without what is far behind.
func brief(p []int) string {
	return fmt.Sprint(len(p), " numbers: ", p[:min(len(p), 10)])
}

// notPositions are lists that are not positions of n places.
func notPositions(n int) [][]int {
	out := [][]int{nil, {}, first(n - 1), first(n + 1), make([]int, n), slices.Repeat(first(n), 2), make([]int, 1000000)}
	for place := range n {
		for _, number := range []int{-1, n, n + 1, 16, 32, 64, 1 << 16, 1 << 32, 1<<32 + place, place + 256, place - 256, math.MaxInt, math.MinInt} {
			p := first(n)
			p[place] = number
			out = append(out, p)
		}
		twice := first(n)
		twice[place] = (place + 1) % n
		rising := first(n)
		for i := place; i < n; i++ { // place is left out
			rising[i]++
		}
		out = append(out, twice, rising)
	}
	return out
}

// P10.1: CheckPosition.
func TestCheckPosition(t *testing.T) {
	for n := 2; n <= 9; n++ {
		most := min(n, 5)
		eachOrder(most, func(list []int) {
			p := append(slices.Clone(list), first(n)[most:]...)
			for range 2 {
				if e := slide.CheckPosition(n, p); e != api.OK {
					t.Fatalf("CheckPosition of %d, %v: %d", n, p, e)
				}
				slices.Reverse(p)
			}
		})
		for _, p := range notPositions(n) {
			if e := slide.CheckPosition(n, p); e != api.ErrArg {
				t.Errorf("CheckPosition of %d, %s: %d", n, brief(p), e)
			}
		}
	}
}

// P10.1: what is not a position is refused by all calls that take positions, wherever it stands.
func TestNoPositions(t *testing.T) {
	for n := 2; n <= 9; n++ {
		edges, right := full(n).edges, first(n)
		for _, wrong := range notPositions(n) {
			for _, pair := range [][2][]int{{wrong, right}, {right, wrong}, {wrong, wrong}} {
				for name, call := range calls(n, edges, pair[0], pair[1], digits("1")) {
					if strings.HasSuffix(name, " pq") || strings.HasSuffix(name, " p") && !slices.Equal(pair[0], right) {
						refuses(t, fmt.Sprintf("%s of %d, %s, %s", name, n, brief(pair[0]), brief(pair[1])), api.ErrArg, call)
					}
				}
				if got, e := slide.Sign(n, pair[0], pair[1]); got != 0 || e != api.ErrArg {
					t.Errorf("Sign of %d, %s, %s: %d, %d", n, brief(pair[0]), brief(pair[1]), got, e)
				}
			}
		}
	}
}

// checkShape checks IsWhole and Sides by their definitions.
func checkShape(t *testing.T, f facade) (bool, bool) {
	t.Helper()
	whole, e := slide.IsWhole(f.n, f.edges)
	if whole != f.isWhole() || e != api.OK {
		t.Fatalf("IsWhole of %v: %t, %d", f, whole, e)
	}
	want, two := f.sides()
	side, has, e := slide.Sides(f.n, f.edges)
	if side != want || has != two || e != api.OK {
		t.Fatalf("Sides of %v: %d, %t, %d", f, side, has, e)
	}
	return whole, two
}

// P10.1: IsWhole and Sides of boards that are known.
func TestShapes(t *testing.T) {
	for _, x := range []struct {
		n     int
		edges string
		whole bool
		side  int
	}{
		{2, "01", false, 1}, {3, "01 12", false, 5}, {3, "01 02", false, 1}, {3, "02 12", false, 3}, {3, "01 02 12", true, 0}, {4, "01 02 13 23", true, 9}, {4, "01 12 23", false, 5}, {4, "01 02 03 12", false, 0}, {4, "01 02 12 13 23", true, 0}, {5, "01 02 12 23 24 34", false, 0}, {7, "01 05 06 12 23 34 36 45", true, 0}, {9, "01 03 12 14 25 34 36 45 47 58 67 78", true, 0b101010101}, {9, "08 18 28 38 48 58 68 78", false, 255}, {6, "05 15 25 35 45", false, 31}, {9, "01 12 23 34 45 56 67 78", false, 0b101010101},
	} {
		f := facade{x.n, ropes(x.edges)}
		whole, two := checkShape(t, f)
		side, _ := must2[int, bool](t)(slide.Sides(f.n, f.edges))
		if whole != x.whole || side != x.side || two != (x.side != 0) {
			t.Errorf("%d, %s: IsWhole %t, Sides %d, %t", x.n, x.edges, whole, side, two)
		}
	}
	for n := 3; n <= 9; n++ {
		if whole, two := checkShape(t, round(n)); !whole || two != (n%2 == 0) {
			t.Errorf("a ring of %d: IsWhole %t, Sides %t", n, whole, two)
		}
		if whole, two := checkShape(t, full(n)); !whole || two {
			t.Errorf("all edges of %d: IsWhole %t, Sides %t", n, whole, two)
		}
		if whole, two := checkShape(t, star(n, n-1)); whole || !two {
			t.Errorf("a star of %d: IsWhole %t, Sides %t", n, whole, two)
		}
	}
}

// P10.1: IsWhole and Sides of all boards of few places, and of some of more.
func TestAnyShapes(t *testing.T) {
	counts := map[[2]bool]int{}
	for n := 2; n <= 5; n++ {
		for _, f := range allBoards(n) {
			checkShape(t, f)
		}
	}
	random := rand.New(rand.NewSource(2))
	for range 5000 {
		whole, two := checkShape(t, someBoard(random, 5+random.Intn(5), random.Intn(20)))
		counts[[2]bool{whole, two}]++
	}
	if len(counts) != 4 || counts[[2]bool{true, true}] < 20 {
		t.Errorf("so many boards are whole and have two sides: %v", counts)
	}
}

// P10.3: Grid.
func TestGrid(t *testing.T) {
	for _, x := range []struct {
		rows, columns int
		edges         string
	}{
		{1, 2, "01"}, {2, 1, "01"}, {1, 3, "01 12"}, {3, 1, "01 12"}, {2, 2, "01 02 13 23"}, {2, 3, "01 03 12 14 25 34 45"}, {3, 2, "01 02 13 23 24 35 45"}, {3, 3, "01 03 12 14 25 34 36 45 47 58 67 78"}, {1, 9, "01 12 23 34 45 56 67 78"}, {9, 1, "01 12 23 34 45 56 67 78"},
	} {
		if n, edges, e := slide.Grid(x.rows, x.columns); n != x.rows*x.columns || !slices.Equal(edges, ropes(x.edges)) || e != api.OK {
			t.Errorf("Grid of %d, %d: %d, %v, %d", x.rows, x.columns, n, edges, e)
		}
	}
	numbers := slices.Concat(notSizes, first(10), []int{1 << 31, 1 << 62, 1<<63 - 1, math.MinInt + 2, 3 << 61, math.MaxInt/2 + 2})
	for _, rows := range numbers {
		for _, columns := range numbers {
			n, edges, e := slide.Grid(rows, columns)
			if rows >= 1 && columns >= 1 && rows < 10 && columns < 10 && rows*columns >= 2 && rows*columns <= 9 {
				if want := grid(rows, columns); !reflect.DeepEqual(facade{n, edges}, want) || e != api.OK || slide.Check(n, edges) != api.OK {
					t.Errorf("Grid of %d, %d: %d, %v, %d", rows, columns, n, edges, e)
				}
			} else if n != 0 || len(edges) != 0 || e != api.ErrArg {
				t.Errorf("Grid of %d, %d: %d, %v, %d", rows, columns, n, edges, e)
			}
		}
	}
}

package slide_test

import (
	"math/rand"
	"slices"
	"testing"

	"squeegee/api"
	"squeegee/slide"
)

// counts are what is counted of a board and a position.
type counts struct{ reached, size, most, number int }

// counted asks the calls.
func (f facade) counted(t *testing.T, p []int) counts {
	t.Helper()
	reached := must[int](t)(slide.Count(f.n, f.edges, p))
	size := must[int](t)(slide.Size(f.n, f.edges))
	most, number := must2[int, int](t)(slide.Farthest(f.n, f.edges, p))
	return counts{reached, size, most, number}
}

// countsBy goes through all positions.
func (f facade) countsBy(p []int) counts {
	needed := f.needed(p)
	out := counts{reached: len(needed)}
	for _, moves := range needed {
		if moves > out.most {
			out.most, out.number = moves, 0
		}
		if moves == out.most {
			out.number++
		}
	}
	for q := range f.needed(first(f.n)) {
		if q[0] == '0' {
			out.size++
		}
	}
	return out
}

func factorial(n int) int {
	if n == 0 {
		return 1
	}
	return n * factorial(n-1)
}

// P10.3: Count, Size and Farthest of boards that are known.
func TestCounts(t *testing.T) {
	for _, x := range []struct {
		f    facade
		p    string
		want counts
	}{
		{grid(2, 2), "0123", counts{12, 3, 6, 1}}, {grid(2, 3), "012345", counts{360, 60, 21, 1}}, // the chapter's
		{grid(3, 2), "012345", counts{360, 60, 21, 1}}, {grid(2, 3), "054321", counts{360, 60, 21, 1}}, {grid(2, 4), "01234567", counts{20160, 2520, 36, 1}}, {grid(3, 3), "012345678", counts{181440, 20160, 31, 2}},
		{grid(1, 2), "01", counts{2, 1, 1, 1}}, {grid(1, 2), "10", counts{2, 1, 1, 1}}, {grid(1, 3), "012", counts{3, 1, 2, 1}}, {grid(1, 3), "102", counts{3, 1, 1, 2}}, {grid(1, 9), "876543210", counts{9, 1, 8, 1}}, {grid(1, 9), "123405678", counts{9, 1, 4, 2}},
		{star(9, 8), "123456780", counts{9, 1, 1, 8}}, {star(9, 8), "012345678", counts{9, 1, 2, 7}}, {star(4, 0), "1023", counts{4, 1, 2, 2}},
		{facade{4, ropes("01 02 12 23")}, "0123", counts{8, 2, 3, 2}}, // a ring of six positions, two opposite ones of which lead to one more each
	} {
		if got := x.f.counted(t, digits(x.p)); got != x.want {
			t.Errorf("%v, %s: %v", x.f, x.p, got)
		}
	}
	for n := 3; n <= 9; n++ { // the positions of a ring are a ring
		if got := round(n).counted(t, first(n)); got != (counts{n * (n - 1), n - 1, n * (n - 1) / 2, 1}) {
			t.Errorf("a ring of %d: %v", n, got)
		}
	}
	for n := 2; n <= 9; n++ {
		f, p := full(n), slices.Repeat(first(n), 2)[n/2:][:n]
		if got := f.counted(t, p); got.reached != factorial(n) || got.size != factorial(n-1) {
			t.Errorf("all edges of %d: %v", n, got)
		}
	}
}

// P10.3: Count, Size and Farthest of all boards of few places, and of some of more.
func TestAnyCounts(t *testing.T) {
	random := rand.New(rand.NewSource(7))
	var boards []facade
	for n := 2; n <= 5; n++ {
		boards = append(boards, allBoards(n)...)
	}
	for range 150 {
		boards = append(boards, someBoard(random, 6, random.Intn(9)))
	}
	for range 25 {
		boards = append(boards, someBoard(random, 7, random.Intn(9)))
	}
	for _, more := range []int{1, 2, 3, 8} {
		boards = append(boards, someBoard(random, 8, more))
	}
	boards = append(boards, someBoard(random, 9, 2), grid(3, 3))
	sizes := map[int]int{}
	for _, f := range boards {
		p := random.Perm(f.n)
		got := f.counted(t, p)
		if want := f.countsBy(p); got != want {
			t.Fatalf("%v, %v: %v instead of %v", f, p, got, want)
		}
		sizes[got.size]++
	}
	if len(sizes) < 12 {
		t.Errorf("so many boards have these sizes: %v", sizes)
	}
}

// P10.4: Size and Reaches of boards that are whole.
func TestWilson(t *testing.T) {
	random := rand.New(rand.NewSource(8))
	var boards []facade
	for n := 3; n <= 5; n++ {
		boards = append(boards, allBoards(n)...)
	}
	for _, times := range [][2]int{{6, 300}, {7, 60}, {8, 12}} {
		for range times[1] {
			boards = append(boards, someBoard(random, times[0], 5+random.Intn(25)))
		}
	}
	for _, f := range []facade{grid(2, 3), grid(2, 4), grid(3, 3), someBoard(random, 9, 25), {6, ropes("03 04 05 13 14 15 23 24 25")}, {7, ropes("01 05 12 23 34 36 45 06 16")}} {
		boards = append(boards, f.named(random.Perm(f.n)))
	}
	for _, f := range allBoards(5) {
		if f.isWhole() && !f.isRing() { // with a place between two more
			boards = append(boards, facade{7, slices.Concat(f.edges, ropes("05 46 56"))}.named(random.Perm(7)))
		}
	}
	seen := map[bool]int{}
	for _, f := range boards {
		whole := must[bool](t)(slide.IsWhole(f.n, f.edges))
		if !whole || f.isRing() || f.isTheta() {
			continue
		}
		side, two := must2[int, bool](t)(slide.Sides(f.n, f.edges))
		want := factorial(f.n - 1)
		if two {
			want /= 2
		}
		if got := must[int](t)(slide.Size(f.n, f.edges)); got != want {
			t.Fatalf("Size of %v: %d", f, got)
		}
		for range 8 {
			p, q := random.Perm(f.n), random.Perm(f.n)
			same := side>>slices.Index(p, 0)&1 == side>>slices.Index(q, 0)&1
			even := must[int](t)(slide.Sign(f.n, p, q)) == 1
			if got, e := slide.Reaches(f.n, f.edges, p, q); got != (!two || same == even) || e != api.OK {
				t.Fatalf("Reaches of %v, %v, %v: %t, %d", f, p, q, got, e)
			}
		}
		seen[two]++
	}
	if seen[true] < 20 || seen[false] < 20 {
		t.Errorf("so many boards have two sides: %v", seen)
	}
}

// P10.4: the board of seven places that is an exception, and rings, whatever the names of their places.
func TestExceptions(t *testing.T) {
	random := rand.New(rand.NewSource(9))
	for range 40 {
		f := theta.named(random.Perm(7))
		if !must[bool](t)(slide.IsWhole(f.n, f.edges)) || !f.isTheta() {
			t.Fatalf("%v is not the board", f)
		}
		if got := f.counted(t, random.Perm(7)); got.size != 120 || got.reached != 840 {
			t.Fatalf("%v: %v", f, got)
		}
	}
	for n := 3; n <= 9; n++ {
		for range 10 {
			f := round(n).named(random.Perm(n))
			if got := f.counted(t, random.Perm(n)); got.size != n-1 || got.reached != n*(n-1) {
				t.Fatalf("%v: %v", f, got)
			}
		}
	}
}

// P10.5: reaching in both directions, Count and Size, and the sign after moves.
func TestMovesAndSigns(t *testing.T) {
	random := rand.New(rand.NewSource(10))
	for r := range 600 {
		f := someBoard(random, 2+random.Intn(6), random.Intn(8))
		if r%100 == 0 {
			f = someBoard(random, 8+random.Intn(2), random.Intn(8))
		}
		p := random.Perm(f.n)
		if got := f.counted(t, p); got.reached != f.n*got.size {
			t.Fatalf("%v, %v: %v", f, p, got)
		}
		for steps := range 12 {
			q, moves := f.walked(random, p, steps)
			there, steppedTo := must2[[]int, int](t)(slide.Apply(f.n, f.edges, p, moves))
			if steppedTo != steps || !slices.Equal(there, q) || !must[bool](t)(slide.Reaches(f.n, f.edges, p, q)) || !must[bool](t)(slide.Reaches(f.n, f.edges, q, p)) {
				t.Fatalf("%v, %v: moves %v to %v", f, p, moves, q)
			}
			if sign := must[int](t)(slide.Sign(f.n, p, q)); sign != 1-steps%2*2 {
				t.Fatalf("%v, %v: moves %v to %v, sign %d", f, p, moves, q, sign)
			}
			other := random.Perm(f.n)
			if must[bool](t)(slide.Reaches(f.n, f.edges, p, other)) != must[bool](t)(slide.Reaches(f.n, f.edges, other, p)) {
				t.Fatalf("Reaches of %v, %v, %v", f, p, other)
			}
		}
	}
}

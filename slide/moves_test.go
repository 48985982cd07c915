package slide_test

import (
	"math"
	"math/rand"
	"slices"
	"testing"

	"squeegee/api"
	"squeegee/slide"
)

// P10.1: Sign.
func TestSign(t *testing.T) {
	for _, x := range []struct {
		p, q string
		want int
	}{
		{"01", "01", 1}, {"01", "10", -1}, {"10", "01", -1}, {"10", "10", 1}, {"012", "012", 1}, {"012", "120", 1}, {"012", "201", 1}, {"012", "021", -1}, {"120", "021", -1}, {"120", "201", 1}, {"0123", "1230", -1}, {"0123", "1032", 1}, {"012345678", "123456780", 1}, {"012345678", "876543210", 1}, {"012345678", "021345678", -1}, {"012345678", "012345687", -1},
	} {
		p, q := digits(x.p), digits(x.q)
		if got, e := slide.Sign(len(p), p, q); got != x.want || e != api.OK {
			t.Errorf("Sign of %s, %s: %d, %d", x.p, x.q, got, e)
		}
	}
	for n := 2; n <= 4; n++ {
		eachOrder(n, func(p []int) {
			p = slices.Clone(p)
			eachOrder(n, func(q []int) {
				if got, e := slide.Sign(n, p, q); got != signBy(p, q) || e != api.OK {
					t.Fatalf("Sign of %v, %v: %d, %d", p, q, got, e)
				}
			})
		})
	}
	random := rand.New(rand.NewSource(3))
	for range 5000 {
		n := 5 + random.Intn(5)
		p, q := random.Perm(n), random.Perm(n)
		if got, e := slide.Sign(n, p, q); got != signBy(p, q) || e != api.OK {
			t.Fatalf("Sign of %v, %v: %d, %d", p, q, got, e)
		}
	}
}

// P10.2: Apply.
func TestApply(t *testing.T) {
	for _, x := range []struct {
		edges, p, moves, then string
		done                  int
	}{
		{"01", "01", "", "01", 0}, {"01", "01", "1", "10", 1}, {"01", "01", "10", "01", 2}, {"01", "01", "0", "01", 0}, {"01", "01", "11", "10", 1}, {"01", "01", "1001", "01", 2}, {"01", "10", "0", "01", 1},
		{"01 12", "012", "12", "120", 2}, {"01 12", "012", "2", "012", 0}, {"01 12", "012", "21", "012", 0}, {"01 12", "012", "120", "120", 2}, {"01 12", "012", "1201", "120", 2}, {"01 12", "012", "3", "012", 0}, {"01 12", "012", "131", "102", 1}, {"01 12", "120", "10", "012", 2}, {"01 02 12", "012", "120", "021", 3},
		{"01 02 13 23", "3012", "3201", "2031", 4}, {"01 02 13 23", "3012", "0", "0312", 1}, {"01 02 13 23", "3012", "32", "3201", 2}, {"01 02 13 23", "3012", "2", "3012", 0},
		{"01 12 23 34 45 56 67 78", "012345678", "12345678", "123456780", 8}, {"08 18 28 38 48 58 68 78", "123456780", "0818283848586878", "123456780", 16}, {"08 18 28 38 48 58 68 78", "123456780", "0812", "103456782", 3},
	} {
		p := digits(x.p)
		then, done, e := slide.Apply(len(p), ropes(x.edges), p, digits(x.moves))
		if !slices.Equal(then, digits(x.then)) || done != x.done || e != api.OK {
			t.Errorf("Apply of %s, %s, %s: %v, %d, %d", x.edges, x.p, x.moves, then, done, e)
		}
	}
}

// P10.2: Apply of moves, the last of which may have no edge, or be no place at all.
func TestAnyMoves(t *testing.T) {
	random := rand.New(rand.NewSource(4))
	for range 5000 {
		f := someBoard(random, 2+random.Intn(8), random.Intn(10))
		p := random.Perm(f.n)
		want, moves := f.walked(random, p, random.Intn(30))
		number := len(moves)
		hole, to := slices.Index(want, 0), random.Intn(f.n)
		switch random.Intn(3) {
		case 0:
			to = []int{-1, f.n, f.n + 1, 9, 15, 16, 63, 64, 1 << 32, math.MinInt, math.MaxInt, hole - 64, hole + 64}[random.Intn(13)]
			moves = append(moves, to, hole, random.Intn(f.n))
		case 1:
			if !f.hasEdge(hole, to) {
				moves = append(moves, to, hole, random.Intn(f.n))
			}
		}
		then, done, e := slide.Apply(f.n, f.edges, p, moves)
		if !slices.Equal(then, want) || done != number || e != api.OK {
			t.Fatalf("Apply of %v, %v, %v: %v, %d, %d", f, p, moves, then, done, e)
		}
	}
}

// checkSolve checks Solve and Reaches by their definitions; needed are the moves that positions need from p.
func checkSolve(t *testing.T, f facade, p, q []int, needed map[string]int) bool {
	t.Helper()
	moves, found, e := slide.Solve(f.n, f.edges, p, q)
	reached, again := slide.Reaches(f.n, f.edges, p, q)
	least, exists := needed[text(q)]
	if found != exists || reached != exists || len(moves) != least || e != api.OK || again != api.OK {
		t.Fatalf("of %v, %v, %v: Solve %v, %t, %d, Reaches %t, %d", f, p, q, moves, found, e, reached, again)
	}
	at, hole := slices.Clone(p), slices.Index(p, 0)
	for _, to := range moves {
		if !f.hasEdge(hole, to) {
			t.Fatalf("Solve of %v, %v, %v: %v", f, p, q, moves)
		}
		at[hole], at[to] = at[to], at[hole]
		hole = to
	}
	if found && !slices.Equal(at, q) {
		t.Fatalf("Solve of %v, %v, %v: %v", f, p, q, moves)
	}
	return found
}

// P10.2: Solve and Reaches of the chapter's examples, and of others with just one shortest solution or none.
func TestSolve(t *testing.T) {
	for _, x := range []struct {
		edges, p, q, moves string
		found              bool
	}{
		{"01", "01", "10", "1", true}, {"01", "10", "01", "0", true}, {"01", "01", "01", "", true}, {"01", "10", "10", "", true},
		{"01 12", "012", "120", "12", true}, {"01 12", "120", "012", "10", true}, {"01 12", "012", "021", "", false}, {"01 12", "021", "012", "", false}, {"01 12", "012", "201", "", false}, {"01 12", "012", "102", "1", true},
		{"01 02 12", "012", "120", "12", true}, {"01 02 12", "012", "201", "21", true}, {"01 02 12", "012", "102", "1", true},
		{"01 12 23 34 45 56 67 78", "012345678", "123456780", "12345678", true}, {"01 12 23 34 45 56 67 78", "123456780", "012345678", "76543210", true}, {"01 12 23 34 45 56 67 78", "012345678", "123456708", "1234567", true}, {"01 12 23 34 45 56 67 78", "012345678", "213456780", "", false},
		{"08 18 28 38 48 58 68 78", "012345678", "802345671", "81", true}, {"08 18 28 38 48 58 68 78", "012345678", "102345678", "", false}, {"01 03 12 14 25 34 36 45 47 58 67 78", "012345678", "021345678", "", false},
	} {
		p, q := digits(x.p), digits(x.q)
		moves, found, e := slide.Solve(len(p), ropes(x.edges), p, q)
		reached, again := slide.Reaches(len(p), ropes(x.edges), p, q)
		if !slices.Equal(moves, digits(x.moves)) || found != x.found || e != api.OK || reached != x.found || again != api.OK {
			t.Errorf("of %s, %s, %s: Solve %v, %t, %d, Reaches %t, %d", x.edges, x.p, x.q, moves, found, e, reached, again)
		}
	}
}

// P10.2: Solve and Reaches of all positions of boards of few places.
func TestAllSolutions(t *testing.T) {
	for n := 2; n <= 4; n++ {
		for _, f := range allBoards(n) {
			eachOrder(n, func(p []int) {
				p = slices.Clone(p)
				needed := f.needed(p)
				eachOrder(n, func(q []int) { checkSolve(t, f, p, q, needed) })
			})
		}
	}
	random := rand.New(rand.NewSource(5))
	for _, f := range allBoards(5) {
		p := random.Perm(5)
		needed := f.needed(p)
		eachOrder(5, func(q []int) { checkSolve(t, f, p, q, needed) })
	}
}

// P10.2: Solve and Reaches of any positions of boards of more places, the farthest ones among them.
func TestAnySolutions(t *testing.T) {
	random := rand.New(rand.NewSource(6))
	boards := []facade{grid(2, 3), grid(3, 2), theta, grid(2, 4), grid(3, 3), round(6), round(9), star(8, 3), full(7), grid(1, 9)}
	for range 60 {
		boards = append(boards, someBoard(random, 6+random.Intn(2), random.Intn(12)))
	}
	boards = append(boards, someBoard(random, 8, 2), someBoard(random, 8, 6), someBoard(random, 9, 8))
	found, none := 0, 0
	for _, f := range boards {
		p := random.Perm(f.n)
		needed := f.needed(p)
		most := 0
		for _, moves := range needed {
			most = max(most, moves)
		}
		for far, moves := range needed {
			if moves == most {
				checkSolve(t, f, p, digits(far), needed)
			}
		}
		for range 20 {
			near, _ := f.walked(random, p, random.Intn(40))
			checkSolve(t, f, p, near, needed)
			if checkSolve(t, f, p, random.Perm(f.n), needed) {
				found++
			} else {
				none++
			}
		}
	}
	if found < 100 || none < 100 {
		t.Errorf("%d solutions are found, %d are not", found, none)
	}
}

package slide_test

import (
	"fmt"
	"math"
	"math/rand"
	"reflect"
	"strings"
	"testing"

	"squeegee/api"
	"squeegee/slide"
)

// anyNumber is a number that may be a place, or one that may not.
func anyNumber(random *rand.Rand) int {
	return []int{0, 1, 2, 3, 8, 9, 10, -1, 64, math.MinInt, math.MaxInt, math.MinInt32, 1 << 32}[random.Intn(13)]
}

// anyPosition is mostly a position of n places.
func anyPosition(random *rand.Rand, n int) []int {
	out := random.Perm(n)
	switch random.Intn(8) {
	case 0:
		out[random.Intn(n)] = anyNumber(random)
	case 1:
		out = random.Perm(random.Intn(12))
	}
	return out
}

// anyMoves are mostly places.
func anyMoves(random *rand.Rand, n int) []int {
	var out []int
	for range random.Intn(6) {
		to := random.Intn(n)
		if random.Intn(10) == 0 {
			to = anyNumber(random)
		}
		out = append(out, to)
	}
	return out
}

// P1, R2, R7: no call panics, whatever it is given; with an error it returns nothing else; and all calls say the same when they are asked again.
func TestAnyData(t *testing.T) {
	random := rand.New(rand.NewSource(11))
	right := map[string]int{}
	for range 3000 {
		f := someBoard(random, 2+random.Intn(5), random.Intn(8))
		p, q, moves := anyPosition(random, f.n), anyPosition(random, f.n), anyMoves(random, f.n)
		switch random.Intn(8) {
		case 0:
			f.n = anyNumber(random)
		case 1:
			f.edges[random.Intn(len(f.edges))][random.Intn(2)] = anyNumber(random)
		case 2:
			f.edges = f.edges[:random.Intn(len(f.edges))]
		case 3:
			random.Shuffle(len(f.edges), func(i, j int) { f.edges[i], f.edges[j] = f.edges[j], f.edges[i] })
		}
		for name, call := range calls(f.n, f.edges, p, q, moves) {
			x, e := call()
			y, again := call()
			if !reflect.DeepEqual(x, y) || e != again {
				t.Fatalf("%s of %v, %v, %v, %v: %v, %d and %v, %d", name, f, p, q, moves, x, e, y, again)
			}
			for _, part := range x {
				if e != api.OK && !isZero(part) {
					t.Fatalf("%s of %v, %v, %v, %v: %v, %d", name, f, p, q, moves, x, e)
				}
			}
			want := slide.Check(f.n, f.edges)
			if want == api.OK && strings.Contains(name, " p") {
				want = slide.CheckPosition(f.n, p)
			}
			if want == api.OK && strings.HasSuffix(name, " pq") {
				want = slide.CheckPosition(f.n, q)
			}
			if e != want {
				t.Fatalf("%s of %v, %v, %v, %v: %d instead of %d", name, f, p, q, moves, e, want)
			}
			if e == api.OK {
				right[name]++
			}
		}
		if sign, e := slide.Sign(f.n, p, q); sign != 0 && e != api.OK || sign == 0 && e == api.OK {
			t.Fatalf("Sign of %d, %v, %v: %d, %d", f.n, p, q, sign, e)
		}
		if n, edges, e := slide.Grid(anyNumber(random), anyNumber(random)); e != api.OK && (n != 0 || len(edges) != 0) {
			t.Fatalf("Grid: %d, %v, %d", n, edges, e)
		}
	}
	for name := range calls(0, nil, nil, nil, nil) {
		if right[name] < 500 {
			t.Errorf("%s has a result %d times only", name, right[name])
		}
	}
}

// spoil changes all numbers of a result.
func spoil(x any) {
	switch x := x.(type) {
	case []int:
		for i := range x {
			x[i] = -77
		}
		_ = append(x, -78)
	case [][2]int:
		for i := range x {
			x[i] = [2]int{-77, -78}
		}
		_ = append(x, [2]int{-79, -80})
	}
}

// lengthened is a list with an element beyond its length.
func lengthened[T any](list []T, beyond T) []T {
	return append(list[:len(list):len(list)], beyond)[:len(list)]
}

// P10.1 to P10.3, R4: arguments are not changed, nor what lies beyond their lengths, nor kept; and results share no memory with them.
func TestMemory(t *testing.T) {
	random := rand.New(rand.NewSource(12))
	for range 400 {
		f := someBoard(random, 2+random.Intn(5), random.Intn(8))
		near, some := f.walked(random, random.Perm(f.n), random.Intn(9))
		far, _ := f.walked(random, near, random.Intn(9))
		edges, p, q, moves := lengthened(f.edges, [2]int{0, 1}), lengthened(near, 0), lengthened(far, 1), lengthened(some, 2)
		text := func() string {
			return fmt.Sprint(edges[:len(edges)+1], p[:len(p)+1], q[:len(q)+1], moves[:len(moves)+1])
		}
		was := text()
		slide.CheckPosition(f.n, p)
		slide.Sign(f.n, p, q)
		all := calls(f.n, edges, p, q, moves)
		all["no moves"] = func() (result, api.Errno) {
			then, done, e := slide.Apply(f.n, edges, p, moves[:0])
			return result{then, done}, e
		}
		all["Grid"] = func() (result, api.Errno) {
			n, list, e := slide.Grid(2, f.n/2)
			return result{n, list}, e
		}
		for name, call := range all {
			out, _ := call()
			known := fmt.Sprint(out...)
			for _, part := range out {
				spoil(part)
			}
			if text() != was {
				t.Fatalf("%s: %s became %s", name, was, text())
			}
			if again, _ := call(); fmt.Sprint(again...) != known {
				t.Fatalf("%s of %s: %s, and then %v", name, was, known, again)
			}
		}
	}
}

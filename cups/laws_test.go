package cups_test

import (
	"fmt"
	"math"
	"math/rand"
	"reflect"
	"testing"

	"squeegee/api"
	"squeegee/cups"
)

// anyNumber is a number that may be one of a point, or one that may not.
func anyNumber(random *rand.Rand) int {
	return []int{0, 0, 1, 2, -1, 999, 1000, -1000, 1001, -1001, math.MinInt, math.MaxInt, math.MinInt32, 1 << 32}[random.Intn(14)]
}

// anyPoints are mostly points, of all kinds.
func anyPoints(random *rand.Rand) [][2]int {
	out := somePoints(random, random.Intn(16), []int{2, 20, 300, 1000}[random.Intn(4)])
	if random.Intn(2) == 0 {
		out = someGeneral(random, 1+random.Intn(14), 60)
	}
	if len(out) > 0 && random.Intn(4) == 0 {
		out[random.Intn(len(out))] = [2]int{anyNumber(random), anyNumber(random)}
	}
	return out
}

// anyIndices are mostly indices of points.
func anyIndices(random *rand.Rand, n int) []int {
	var out []int
	for range random.Intn(6) {
		i := random.Intn(n + 1)
		if random.Intn(10) == 0 {
			i = anyNumber(random)
		}
		out = append(out, i)
	}
	return out
}

// P1, R2, R7: no call panics, whatever it is given; with an error it returns nothing else; and all calls say the same when they are asked again.
func TestAnyData(t *testing.T) {
	random := rand.New(rand.NewSource(14))
	right := map[string]int{}
	for range 3000 {
		l, m := anyPoints(random), anyPoints(random)
		for name, call := range calls(l, m) {
			x, e := call()
			y, again := call()
			if !reflect.DeepEqual(x, y) || e != again {
				t.Fatalf("%s of %v, %v: %v, %d and %v, %d", name, l, m, x, e, y, again)
			}
			for _, part := range x {
				if e != api.OK && !isZero(part) {
					t.Fatalf("%s of %v, %v: %v, %d", name, l, m, x, e)
				}
			}
			if e == api.OK {
				right[name]++
			}
		}
		list := anyIndices(random, len(l))
		for name, is := range kinds {
			if got := is(l, list); got != is(l, list) || got && (cups.Check(l) != api.OK || !isGeneral(l)) {
				t.Fatalf("%s of %v, %v: %t", name, l, list, got)
			}
		}
		if n, e := cups.Turn([2]int(append(list, 0, 0)), [2]int{anyNumber(random), anyNumber(random)}, [2]int{anyNumber(random), anyNumber(random)}); n != 0 && e != api.OK {
			t.Fatalf("Turn: %d, %d", n, e)
		}
	}
	for name := range calls(nil, nil) {
		if right[name] < 100 {
			t.Errorf("%s has a result %d times only", name, right[name])
		}
	}
}

// spoil changes all numbers of a result.
func spoil(x any) {
	switch x := x.(type) {
	case []int:
		for i := range x {
			x[i] = -77
		}
		_ = append(x, -78)
	case [][]int:
		for i := range x {
			spoil(x[i])
		}
		_ = append(x, []int{-79})
	}
}

// lengthened is a list with an element beyond its length.
func lengthened[T any](list []T, beyond T) []T {
	return append(list[:len(list):len(list)], beyond)[:len(list)]
}

// P9.1 to P9.5, R4: arguments are not changed, nor what lies beyond their lengths, nor kept; and results share no memory with them.
func TestMemory(t *testing.T) {
	random := rand.New(rand.NewSource(15))
	for range 400 {
		l, m := lengthened(someGeneral(random, 1+random.Intn(14), 40), [2]int{98, 98}), lengthened(anyPoints(random), [2]int{99, 99})
		list := lengthened(anyIndices(random, len(l)), 97)
		text := func() string {
			return fmt.Sprint(l[:len(l)+1], m[:len(m)+1], list[:len(list)+1])
		}
		was := text()
		for name, is := range kinds {
			is(l, list)
			if text() != was {
				t.Fatalf("%s: %s became %s", name, was, text())
			}
		}
		for name, call := range calls(l, m) {
			out, _ := call()
			first := fmt.Sprint(out...)
			for _, part := range out {
				spoil(part)
			}
			if text() != was {
				t.Fatalf("%s: %s became %s", name, was, text())
			}
			if again, _ := call(); fmt.Sprint(again...) != first {
				t.Fatalf("%s of %s: %s, and then %v", name, was, first, again)
			}
		}
	}
}

// R4: no two layers share memory.
func TestLists(t *testing.T) {
	for _, l := range examples(rand.New(rand.NewSource(16)), 300, 5, 14) {
		layers := must[[][]int](t)(cups.Layers(l))
		for i := range layers {
			was := fmt.Sprint(layers[:i], layers[i+1:])
			spoil(layers[i])
			if fmt.Sprint(layers[:i], layers[i+1:]) != was {
				t.Fatalf("%s became %v", was, layers)
			}
		}
	}
}

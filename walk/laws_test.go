package walk_test

import (
	"fmt"
	"math"
	"math/rand"
	"reflect"
	"strings"
	"testing"

	"squeegee/api"
	"squeegee/num"
	"squeegee/walk"
)

// P6.7: Return is 1 divided by the share.
func TestKac(t *testing.T) {
	random := rand.New(rand.NewSource(104))
	found := 0
	for _, m := range chains(random, 300) {
		for i := range m {
			shares, e := walk.Shares(m, i)
			r, stuck := walk.Return(m, i)
			if e != stuck {
				t.Fatalf("%s, %d: %d and %d", showRows(m), i, e, stuck)
			}
			if e == api.OK {
				found++
				if !isOne(times(exact(shares[i]), exact(r))) {
					t.Fatalf("%s, %d: %s, %s", showRows(m), i, shares[i], r)
				}
			}
		}
	}
	if found < 300 {
		t.Error(found)
	}
}

// P6.7: the shares are those of the weights of the trees.
func TestKirchhoff(t *testing.T) {
	random := rand.New(rand.NewSource(105))
	found := 0
	for k, m := range append(chains(random, 300), primeChain()) {
		if !isOneClass(m) {
			continue
		}
		found++
		all := whole(0)
		for j := range m {
			all = plus(all, exact(must[num.Rat](t)(walk.Trees(m, j))))
		}
		shares := must[[]num.Rat](t)(walk.Shares(m, k%len(m)))
		for j, share := range exactList(shares) {
			if weight := exact(must[num.Rat](t)(walk.Trees(m, j))); times(share, all).Cmp(weight) != 0 {
				t.Fatalf("%s: %s, but %s of %s", showRows(m), show(shares), weight, all)
			}
		}
	}
	if found < 50 {
		t.Error(found)
	}
}

// P6.8: a chain that is one class is balanced just if each ring has the same product in both directions.
func TestKolmogorov(t *testing.T) {
	random := rand.New(rand.NewSource(106))
	list := chains(random, 400)
	for range 100 {
		list = append(list, evenChain(random, 1+random.Intn(6), random.Intn(101)))
	}
	found := map[bool]int{}
	for _, m := range list {
		if !isOneClass(m) || len(m) > 6 {
			continue
		}
		_, is, e := walk.Balanced(m)
		if e != api.OK || is == hasUneven(exactRows(m), nil) {
			t.Fatalf("Balanced of %s: %v, %d", showRows(m), is, e)
		}
		found[is]++
	}
	if found[true] < 100 || found[false] < 20 {
		t.Error(found)
	}
}

// P6.8: there and back.
func TestBackOfBack(t *testing.T) {
	random := rand.New(rand.NewSource(107))
	found := map[bool]int{}
	for range 600 {
		low := []int64{1 + random.Int63n(9), 999}[random.Intn(2)]
		m := someChain(random, 1+random.Intn(6), 30+random.Intn(70), 1, low)
		back, e := walk.Back(m)
		if e != api.OK {
			continue
		}
		again, e := walk.Back(back)
		if walk.Check(back) == api.ErrChain {
			found[false]++
			if e != api.ErrChain || len(again) > 0 {
				t.Fatalf("%s: %s, %d", showRows(back), showRows(again), e)
			}
			continue
		}
		found[true]++
		if e != api.OK || showRows(again) != showRows(m) {
			t.Fatalf("%s becomes %s, %s", showRows(m), showRows(back), showRows(again))
		}
		if a, b := must[[]num.Rat](t)(walk.Shares(m, 0)), must[[]num.Rat](t)(walk.Shares(back, 0)); show(a) != show(b) {
			t.Fatalf("%s: %s and %s", showRows(m), show(a), show(b))
		}
	}
	if found[true] < 50 || found[false] < 50 {
		t.Error(found)
	}
}

// anyRat is a fraction that may stand in a chain, or one that may not.
func anyRat(random *rand.Rand) num.Rat {
	nines := strings.Repeat("9", api.MaxDigits)
	return read([]string{"0", "0", "1", "1", "1/2", "1/2", "-1", "2", "1/3", "2/3", "999999", "1/1000000", "-1/2", nines, "1/" + nines}[random.Intn(15)])
}

// P1, R2, R7: no call panics, whatever it is given; with an error it returns nothing else; and all calls say the same when they are asked again.
func TestAnyData(t *testing.T) {
	random := rand.New(rand.NewSource(108))
	numbers := []int{0, 0, 1, 1, 2, 3, 5, 7, 8, 50, 51, 255, 256, -1, math.MinInt, math.MaxInt}
	number := func() int { return numbers[random.Intn(len(numbers))] }
	right := map[string]int{}
	some := chains(random, 3000)
	for _, m := range some {
		from := m[0]
		switch random.Intn(6) {
		case 0:
			m[random.Intn(len(m))] = m[0][1:]
		case 1:
			m[random.Intn(len(m))][random.Intn(len(m))] = anyRat(random)
		case 2:
			m = append(m, m[0])
		case 3:
			from = from[1:]
		case 4:
			from = append([]num.Rat{anyRat(random)}, from[1:]...)
		}
		for name, call := range calls(m, from, number(), number(), number()%13) {
			x, e := call()
			y, again := call()
			if !reflect.DeepEqual(x, y) || e != again {
				t.Fatalf("%s of %s: %v, %d and %v, %d", name, showRows(m), x, e, y, again)
			}
			for _, part := range x {
				if e != api.OK && !isZero(part) {
					t.Fatalf("%s of %s: %v, %d", name, showRows(m), x, e)
				}
			}
			if e == api.OK {
				right[name]++
			}
		}
		c, g, e := walk.Ruin(anyRat(random), number(), number())
		if e != api.OK && (!isZero(c) || !isZero(g)) {
			t.Fatalf("Ruin: %s, %s, %d", c, g, e)
		}
	}
	for name := range calls(nil, nil, 0, 0, 0) {
		if right[name] < 50 {
			t.Errorf("%s has a result %d times only", name, right[name])
		}
	}
}

// spoil changes all fractions and numbers of a result.
func spoil(x any) {
	switch x := x.(type) {
	case []num.Rat:
		for i := range x {
			x[i] = num.Of(-77)
		}
	case [][]num.Rat:
		for i := range x {
			spoil(x[i])
			_ = append(x[i], num.Of(-78))
		}
	case []int:
		for i := range x {
			x[i] = -77
		}
	case []bool:
		for i := range x {
			x[i] = !x[i]
		}
	}
}

// R4: arguments are not changed, nor what lies beyond their lengths, nor kept; and results share no memory with them.
func TestMemory(t *testing.T) {
	random := rand.New(rand.NewSource(109))
	for _, m := range chains(random, 200) {
		beyond := read("99")
		for i, row := range m {
			long := append(row[:len(row):len(row)], beyond)
			m[i] = long[:len(row)]
		}
		whole := append(m, []num.Rat{beyond})
		m = whole[:len(m)]
		start := append(append([]num.Rat(nil), m[0]...), beyond)
		from := start[:len(m)]
		text := func() string {
			var all [][]num.Rat
			for i, row := range whole {
				if i < len(m) {
					row = row[:len(row)+1]
				}
				all = append(all, row)
			}
			return showRows(all) + ";" + show(start)
		}
		was := text()
		for name, call := range calls(m, from, random.Intn(len(m)), 1+random.Intn(1<<len(m)-1), random.Intn(4)) {
			x, _ := call()
			first := fmt.Sprint(x...)
			for _, part := range x {
				spoil(part)
			}
			if text() != was {
				t.Fatalf("%s: %s became %s", name, was, text())
			}
			if y, _ := call(); fmt.Sprint(y...) != first {
				t.Fatalf("%s of %s: %s, and then %v", name, was, first, y)
			}
		}
	}
}

// R4: no two rows of a result share memory.
func TestRows(t *testing.T) {
	random := rand.New(rand.NewSource(110))
	for range 100 {
		back, e := walk.Back(evenChain(random, 2+random.Intn(6), 50))
		if e != api.OK {
			t.Fatal(e)
		}
		for i := range back {
			was := showRows(back[:i]) + "|" + showRows(back[i+1:])
			spoil(back[i])
			_ = append(back[i], num.Of(-78))
			if showRows(back[:i])+"|"+showRows(back[i+1:]) != was {
				t.Fatalf("%s became %s", was, showRows(back))
			}
		}
	}
}

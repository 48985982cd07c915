package leon_test

import (
	"fmt"
	"math"
	"math/rand"
	"reflect"
	"strings"
	"testing"

	"squeegee/api"
	"squeegee/leon"
	"squeegee/num"
)

// anyRat is a fraction that may stand in a table, or one that may not.
func anyRat(random *rand.Rand) num.Rat {
	nines := strings.Repeat("9", api.MaxDigits)
	return read([]string{"0", "0", "1", "1", "1/2", "1/2", "-1", "2", "1/3", "2/3", "999999", "1/1000000", "-1/2", nines, "1/" + nines, "-" + nines[:1001], "-1/" + nines[:1000]}[random.Intn(17)])
}

// P1, R2, R7: no call panics, whatever it is given; with an error it returns nothing else; and all calls say the same when they are asked again.
func TestAnyData(t *testing.T) {
	random := rand.New(rand.NewSource(13))
	numbers := []int{0, 0, 1, 1, 2, 3, 4, 5, 21, 1 << 33, -1, math.MinInt, math.MaxInt}
	right := map[string]int{}
	for _, a := range tables(random, 1500) {
		x := someAmounts(random, len(a))
		switch random.Intn(6) {
		case 0:
			a[random.Intn(len(a))] = a[0][1:]
		case 1:
			a[random.Intn(len(a))][random.Intn(len(a))] = anyRat(random)
		case 2:
			a = append(a, a[0])
		case 3:
			x = x[1:]
		case 4:
			x = append([]num.Rat{anyRat(random)}, x[1:]...)
		}
		is := leon.IsEating(a, x)
		if is && leon.Check(a) != api.OK || is != leon.IsEating(a, x) {
			t.Fatalf("IsEating of %s, %.100s: %t", showRows(a), show(x), is)
		}
		for name, call := range calls(a, x, numbers[random.Intn(len(numbers))]) {
			x, e := call()
			y, again := call()
			if !reflect.DeepEqual(x, y) || e != again {
				t.Fatalf("%s of %s: %v, %d and %v, %d", name, showRows(a), x, e, y, again)
			}
			for _, part := range x {
				if e != api.OK && !isZero(part) {
					t.Fatalf("%s of %s: %v, %d", name, showRows(a), x, e)
				}
			}
			if e == api.OK {
				right[name]++
			}
		}
	}
	for name := range calls(nil, nil, 0) {
		if right[name] < 50 {
			t.Errorf("%s has a result %d times only", name, right[name])
		}
	}
}

// spoil changes all fractions and numbers of a result.
func spoil(x any) {
	switch x := x.(type) {
	case []num.Rat:
		for i := range x {
			x[i] = num.Of(-77)
		}
	case [][]num.Rat:
		for i := range x {
			spoil(x[i])
			_ = append(x[i], num.Of(-78))
		}
	case []int:
		for i := range x {
			x[i] = -77
		}
	}
}

// P7.1 to P7.4, R4: arguments are not changed, nor what lies beyond their lengths, nor kept; and results share no memory with them.
func TestMemory(t *testing.T) {
	random := rand.New(rand.NewSource(14))
	for _, a := range tables(random, 200) {
		beyond := read("99")
		for i, row := range a {
			long := append(row[:len(row):len(row)], beyond)
			a[i] = long[:len(row)]
		}
		whole := append(a, []num.Rat{beyond})
		a = whole[:len(a)]
		start := append(someAmounts(random, len(a)), beyond)
		x := start[:len(a)]
		text := func() string {
			var all [][]num.Rat
			for i, row := range whole {
				if i < len(a) {
					row = row[:len(row)+1]
				}
				all = append(all, row)
			}
			return showRows(all) + ";" + show(start)
		}
		was := text()
		leon.IsEating(a, x)
		for name, call := range calls(a, x, random.Intn(4)) {
			x, _ := call()
			first := fmt.Sprint(x...)
			for _, part := range x {
				spoil(part)
			}
			if text() != was {
				t.Fatalf("%s: %s became %s", name, was, text())
			}
			if y, _ := call(); fmt.Sprint(y...) != first {
				t.Fatalf("%s of %s: %s, and then %v", name, was, first, y)
			}
		}
	}
}

// R4: no two rows of Multipliers share memory.
func TestRows(t *testing.T) {
	for n := 2; n <= 8; n++ {
		rows := must[[][]num.Rat](t)(leon.Multipliers(someTable(rand.New(rand.NewSource(15)), n, 100, 10, 99)))
		for i := range rows {
			was := showRows(rows[:i]) + "|" + showRows(rows[i+1:])
			spoil(rows[i])
			_ = append(rows[i], num.Of(-78))
			if showRows(rows[:i])+"|"+showRows(rows[i+1:]) != was {
				t.Fatalf("%s became %s", was, showRows(rows))
			}
		}
	}
}

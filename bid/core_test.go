package bid_test

import (
	"fmt"
	"math"
	"math/rand"
	"slices"
	"testing"

	"squeegee/api"
	"squeegee/bid"
)

// P8.5: IsCore, by examples.
func TestIsCore(t *testing.T) {
	for _, x := range []struct {
		m              int
		bids, payments string
		want           bool
	}{
		{1, "0 5;0 8;0 3", "0 5 0", true}, {1, "0 5;0 8;0 3", "0 8 0", true}, {1, "0 5;0 8;0 3", "0 4 0", false}, {1, "0 5;0 8;0 3", "0 9 0", false}, {1, "0 5;0 8;0 3", "1 5 0", false}, {1, "0 5;0 8;0 3", "0 5 -1", false}, {1, "0 5;0 8;0 3", "-1 8 0", false},
		{2, "0 0 0 10;0 6 6 6;0 6 6 6", "0 4 4", false}, {2, "0 0 0 10;0 6 6 6;0 6 6 6", "0 5 5", true}, {2, "0 0 0 10;0 6 6 6;0 6 6 6", "0 4 6", true}, {2, "0 0 0 10;0 6 6 6;0 6 6 6", "0 6 4", true}, {2, "0 0 0 10;0 6 6 6;0 6 6 6", "0 6 3", false}, {2, "0 0 0 10;0 6 6 6;0 6 6 6", "0 3 6", false}, {2, "0 0 0 10;0 6 6 6;0 6 6 6", "0 6 6", true}, {2, "0 0 0 10;0 6 6 6;0 6 6 6", "0 7 6", false}, {2, "0 0 0 10;0 6 6 6;0 6 6 6", "0 3 7", false},
		{1, "0 7", "0", true}, {1, "0 7", "7", true}, {1, "0 7", "8", false}, {1, "0 7", "-1", false}, {1, "0 0", "0", true}, {2, "0 3 1 3;0 2 2 2", "0 0", true}, {2, "0 3 1 3;0 2 2 2", "3 2", true}, {2, "0 3 1 3;0 2 2 2", "4 2", false},
		{1, "0 7;0 7", "0 9223372036854775807", false}, {1, "0 7;0 7", "-9223372036854775808 7", false}, {1, "0 7;0 7;0 7", "9223372036854775807 9223372036854775807 7", false}, {1, "0 7;0 7;0 7", "-9223372036854775808 -9223372036854775808 7", false}, {1, "0 7;0 7", "0 7", true}, {1, "0 7;0 7", "0 6", false},
	} {
		if got, e := bid.IsCore(x.m, rows(x.bids), row(x.payments)); got != x.want || e != api.OK {
			t.Errorf("IsCore of %d, %s, %s: %t, %d", x.m, x.bids, x.payments, got, e)
		}
	}
	for _, s := range []string{"", "0", "0 0 0", "-1", "0 0 -1", "9223372036854775807"} {
		refuses(t, "IsCore of "+s, api.ErrArg, calls(2, rows("0 5 5 9;0 6 6 6"), arguments{prices: row(s)})["IsCore"])
	}
}

// P8.5, P8.8: IsCore of any payments; what all offer for their bundles is a core payment list.
func TestAnyCore(t *testing.T) {
	random := rand.New(rand.NewSource(14))
	found := map[bool]int{}
	for _, x := range examples(random, 400) {
		_, l := bestOf(x.m, x.bids)
		var offered []int64
		for i, b := range l {
			offered = append(offered, x.bids[i][b])
		}
		if !must[bool](t)(bid.IsCore(x.m, x.bids, offered)) {
			t.Fatalf("IsCore of %d, %v, %v: false", x.m, x.bids, offered)
		}
		lists := [][]int64{make([]int64, len(l)), paymentsOf(x.m, x.bids)}
		for range 4 {
			some := paymentsOf(x.m, x.bids)
			for i, o := range offered {
				some[i] += random.Int63n(o - some[i] + 1)
			}
			i := random.Intn(len(l))
			beside := slices.Clone(some)
			beside[i] += []int64{-1, 1, -offered[i] - 1, 1000000, math.MaxInt64 - beside[i]}[random.Intn(5)]
			lists = append(lists, some, beside)
		}
		for _, payments := range lists {
			want := isCoreBy(x.m, x.bids, payments)
			if got, e := bid.IsCore(x.m, x.bids, payments); got != want || e != api.OK {
				t.Fatalf("IsCore of %d, %v, %v: %t, %d", x.m, x.bids, payments, got, e)
			}
			found[want]++
		}
	}
	if found[true] < 300 || found[false] < 300 {
		t.Errorf("only %v", found)
	}
}

// P8.5: the payments for single bids are a core payment list, and no payment can be less.
func TestSingleCore(t *testing.T) {
	random := rand.New(rand.NewSource(15))
	for k := range 200 {
		m, n := 1+random.Intn(6), 1+random.Intn(6)
		bids := someSingle(random, m, n, limits[k%len(limits)])
		payments := must[[]int64](t)(bid.Payments(m, bids))
		if !must[bool](t)(bid.IsCore(m, bids, payments)) {
			t.Fatalf("IsCore of %d, %v, %v: false", m, bids, payments)
		}
		for i := range payments {
			payments[i]--
			if must[bool](t)(bid.IsCore(m, bids, payments)) {
				t.Fatalf("IsCore of %s: true", fmt.Sprint(m, bids, payments))
			}
			payments[i]++
		}
	}
}

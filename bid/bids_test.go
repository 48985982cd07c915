package bid_test

import (
	"fmt"
	"math"
	"math/rand"
	"slices"
	"testing"

	"squeegee/api"
	"squeegee/bid"
)

// wrongCounts are numbers of items that are not from 1 to 6.
var wrongCounts = []int{0, 7, -1, 63, 64, 65, math.MinInt, math.MaxInt}

// notBids are bids for two items that are not right.
func notBids() map[string][][]int64 {
	out := map[string][][]int64{"nil": nil, "an empty list": {{}}, "7 bidders": slices.Repeat(rows("0 1 1 1"), 7)}
	for _, s := range []string{"0", "0 1", "0 1 1", "0 1 1 1 1", "0 0 0 0 0 0 0 0", "0 1 1 1;0 1 1", "0 1 1;0 1 1 1", "0 1 1 1;0 1 1 1 1", "0 1 1 1;", // not 4 numbers each
		"1 1 1 1", "0 0 0 0;1 1 1 1", "-1 0 0 0", // the empty bundle
		"0 -1 0 0", "0 0 -1 0", "0 0 0 -1", "0 1000001 0 1000001", "0 0 0 1000001", "0 0 0 9223372036854775807", "0 1 1 1;0 -9223372036854775808 0 0", // out of range
		"0 1 0 0", "0 0 1 0", "0 2 1 1", "0 1 2 1", "0 5 5 4", "0 1000000 1000000 999999", "0 1 1 1;0 1 1 0", "0 1 1 1;0 1 1 1;0 3 4 3", // falling
	} {
		out[s] = rows(s)
	}
	return out
}

// P8.1: what bids are right.
func TestCheck(t *testing.T) {
	for _, x := range []struct {
		m    int
		bids string
	}{
		{1, "0 0"}, {1, "0 1000000"}, {1, "0 5;0 8;0 3"}, {1, "0 1;0 2;0 3;0 4;0 5;0 6"}, {2, "0 0 0 0"}, {2, "0 0 0 1000000"}, {2, "0 1 2 2"}, {2, "0 2 1 2"}, {2, "0 1000000 1000000 1000000"}, {2, "0 0 0 10;0 6 6 6;0 6 6 6"}, {2, "0 3 4 7"}, {3, "0 1 1 1 1 1 1 1"}, {3, "0 1 2 2 3 3 3 9"},
	} {
		if e := bid.Check(x.m, rows(x.bids)); e != api.OK {
			t.Errorf("Check of %d, %s: %d", x.m, x.bids, e)
		}
	}
	random := rand.New(rand.NewSource(1))
	for m := 1; m <= 6; m++ {
		for n := 1; n <= 6; n++ {
			if e := bid.Check(m, someBids(random, m, n, 1000000)); e != api.OK {
				t.Errorf("Check of %d bids for %d items: %d", n, m, e)
			}
		}
		if e := bid.Check(m, someBids(random, m, 7, 1000000)); e != api.ErrBid {
			t.Errorf("Check of 7 bids for %d items: %d", m, e)
		}
	}
	for name, bids := range notBids() {
		if e := bid.Check(2, bids); e != api.ErrBid {
			t.Errorf("Check of 2, %.50s: %d", name, e)
		}
	}
	for _, m := range wrongCounts {
		if e := bid.Check(m, rows("0 1 1 1")); e != api.ErrArg {
			t.Errorf("Check of %d: %d", m, e)
		}
	}
	for m := 1; m <= 6; m++ {
		if e := bid.Check(m, rows("0 1 1 1")); (e == api.OK) != (m == 2) || e != api.OK && e != api.ErrBid {
			t.Errorf("Check of 4 offers for %d items: %d", m, e)
		}
	}
}

// P8.1: an offer that is less than that for a bundle with one item less is found for each item and each bundle.
func TestFalling(t *testing.T) {
	for m := 1; m <= 6; m++ {
		for b := 1; b < 1<<m; b++ {
			for i := range m {
				if b>>i&1 == 0 {
					continue
				}
				offers := make([]int64, 1<<m)
				for c := range offers { // for what has all of the bundle's other items, but not for the bundle
					if part := b &^ (1 << i); c != 0 && c&part == part && c != b {
						offers[c] = 7
					}
				}
				want := api.OK
				if offers[b&^(1<<i)] > 0 {
					want = api.ErrBid
				}
				if e := bid.Check(m, [][]int64{offers}); e != want {
					t.Fatalf("Check of %d, %v: %d", m, offers, e)
				}
			}
		}
	}
}

// P8.1: ErrArg and then ErrBid come first, whatever else is wrong.
func TestNoBids(t *testing.T) {
	others := []arguments{{}, {who: -1, offer: row("0 -1"), l: ints("-1"), prices: row("-1")}, {who: 0, offer: row("0 1 1 1"), l: ints("0"), prices: row("0")}, {who: 1, offer: row("0 1 1 1"), l: ints("0 0"), prices: row("0 0")}, {who: 9, offer: row("0 3 2 1"), l: ints("3 3"), prices: row("1000000001 0")}}
	for _, x := range others {
		for name, bids := range notBids() {
			for called, call := range calls(2, bids, x) {
				if called != "Single" {
					refuses(t, fmt.Sprintf("%s of 2, %.50s, %v", called, name, x), api.ErrBid, call)
				}
			}
			if bid.IsAllocation(2, bids, x.l) || bid.IsAllocation(2, bids, make([]int, len(bids))) {
				t.Errorf("IsAllocation of 2, %.50s, %v", name, x.l)
			}
			for _, m := range wrongCounts {
				for called, call := range calls(m, bids, x) {
					refuses(t, fmt.Sprintf("%s of %d, %.50s, %v", called, m, name, x), api.ErrArg, call)
				}
			}
		}
		for _, m := range wrongCounts {
			bids := rows("0 1 1 1")
			for called, call := range calls(m, bids, x) {
				refuses(t, fmt.Sprintf("%s of %d, %v", called, m, x), api.ErrArg, call)
			}
			if bid.IsAllocation(m, bids, ints("0")) {
				t.Errorf("IsAllocation of %d", m)
			}
		}
	}
}

// P8.1: Best.
func TestBest(t *testing.T) {
	for _, x := range []struct {
		m     int
		bids  string
		worth int64
		l     string
	}{
		{1, "0 5;0 8;0 3", 8, "0 1 0"}, {2, "0 0 0 10;0 6 6 6;0 6 6 6", 12, "0 1 2"}, {2, "0 3 1 3;0 2 2 2", 5, "1 2"}, // the chapter's
		{1, "0 0", 0, "0"}, {1, "0 7", 7, "1"}, {1, "0 7;0 7", 7, "0 1"}, {1, "0 7;0 7;0 7", 7, "0 0 1"}, {1, "0 0;0 0", 0, "0 0"}, {2, "0 0 0 10", 10, "3"}, {2, "0 4 4 4", 4, "1"}, {2, "0 0 4 4", 4, "2"}, {2, "0 1 2 3;0 1 2 3", 3, "0 3"}, {2, "0 1 2 2;0 1 2 2", 3, "1 2"}, {2, "0 6 6 12;0 6 6 6;0 6 6 6", 12, "0 1 2"}, {2, "0 6 6 12;0 6 6 6", 12, "1 2"}, {3, "0 0 0 5 0 0 0 5;0 0 0 0 0 5 0 5;0 0 0 0 0 0 5 5", 5, "0 0 6"}, {3, "0 0 0 0 9 9 9 9;0 1 0 1 0 1 0 1", 10, "4 1"},
	} {
		worth, l, e := bid.Best(x.m, rows(x.bids))
		if worth != x.worth || !slices.Equal(l, ints(x.l)) || e != api.OK {
			t.Errorf("Best of %d, %s: %d, %v, %d", x.m, x.bids, worth, l, e)
		}
	}
	for _, x := range examples(rand.New(rand.NewSource(2)), 1500) {
		checkBest(t, x.m, x.bids)
	}
}

func checkBest(t *testing.T, m int, bids [][]int64) {
	t.Helper()
	worth, l, e := bid.Best(m, bids)
	best, first := bestOf(m, bids)
	if worth != best || !slices.Equal(l, first) || e != api.OK {
		t.Fatalf("Best of %d, %v: %d, %v, %d instead of %d, %v", m, bids, worth, l, e, best, first)
	}
}

// P8.1: Best of as many bidders and items as there may be.
func TestLargeBest(t *testing.T) {
	random := rand.New(rand.NewSource(3))
	for k := range 25 {
		checkBest(t, 6, someBids(random, 6, 6, limits[k%len(limits)]))
		checkBest(t, 6, someSingle(random, 6, 1+random.Intn(6), limits[k%len(limits)]))
	}
	var most [][]int64
	for i := range 6 {
		offers := make([]int64, 64)
		for b := range offers {
			offers[b] = int64(b>>(5-i)&1) * 1000000
		}
		most = append(most, offers)
	}
	if worth, l, e := bid.Best(6, most); worth != 6000000 || !slices.Equal(l, ints("32 16 8 4 2 1")) || e != api.OK {
		t.Errorf("Best: %d, %v, %d", worth, l, e)
	}
}

// P8.1: IsAllocation.
func TestIsAllocation(t *testing.T) {
	bids := rows("0 5 5 9;0 6 6 6;0 0 0 1")
	for _, s := range []string{"0 0 0", "1 2 0", "2 1 0", "0 0 3", "3 0 0", "0 1 2", "1 0 0"} {
		if !bid.IsAllocation(2, bids, ints(s)) {
			t.Errorf("IsAllocation of %s", s)
		}
	}
	for _, s := range []string{"", "0", "0 0", "1 2", "0 0 0 0", "1 1 0", "3 1 0", "0 2 3", "1 0 1", "4 0 0", "0 0 4", "-1 0 0", "0 0 -4", "0 -2 0", "256 0 0", "4294967296 0 0", "-9223372036854775808 0 0", "9223372036854775807 0 0", "4294967297 2 0"} {
		if bid.IsAllocation(2, bids, ints(s)) {
			t.Errorf("IsAllocation of %s", s)
		}
	}
	for m := 1; m <= 3; m++ {
		for n := 1; n <= 3; n++ {
			checkAllocations(t, m, n)
		}
	}
}

// checkAllocations counts the allocations: each item goes to a bidder or to none.
func checkAllocations(t *testing.T, m, n int) {
	bids := someBids(rand.New(rand.NewSource(4)), m, n, 9)
	want, found := 1, 0
	for range m {
		want *= n + 1
	}
	for number := range 1 << (4 * n) { // bundles up to 15
		var l []int
		for i := range n {
			l = append(l, number>>(4*i)&15)
		}
		if bid.IsAllocation(m, bids, l) {
			found++
		}
	}
	if found != want {
		t.Errorf("%d allocations of %d items to %d bidders, not %d", found, m, n, want)
	}
}

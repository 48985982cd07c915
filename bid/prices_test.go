package bid_test

import (
	"fmt"
	"math/rand"
	"reflect"
	"slices"
	"testing"

	"squeegee/api"
	"squeegee/bid"
)

// P8.3: IsSingle.
func TestIsSingle(t *testing.T) {
	for _, x := range []struct {
		m    int
		bids string
		want bool
	}{
		{1, "0 0", true}, {1, "0 5;0 8;0 3", true}, {2, "0 0 0 0", true}, {2, "0 3 1 3;0 2 2 2", true}, {2, "0 3 1 4", false}, {2, "0 0 0 1", false}, {2, "0 3 1 3;0 2 2 3", false}, {2, "0 2 2 3;0 3 1 3", false}, {2, "0 1 2 3", false}, {2, "0 0 5 5", true}, {3, "0 1 2 2 3 3 3 3", true}, {3, "0 1 2 2 3 3 3 4", false}, {3, "0 1 2 3 3 3 3 3", false}, {3, "0 1 2 2 1 1 2 2", true}, {3, "0 1 2 2 1 2 2 2", false},
	} {
		if got, e := bid.IsSingle(x.m, rows(x.bids)); got != x.want || e != api.OK {
			t.Errorf("IsSingle of %d, %s: %t, %d", x.m, x.bids, got, e)
		}
	}
	random := rand.New(rand.NewSource(9))
	for range 1500 {
		m, n := 1+random.Intn(6), 1+random.Intn(6)
		bids := someSingle(random, m, n, 20)
		if !must[bool](t)(bid.IsSingle(m, bids)) {
			t.Fatalf("IsSingle of %v: false", bids)
		}
		offers, b := bids[random.Intn(n)], 1<<m-1
		offers[b]++
		if m > 1 && must[bool](t)(bid.IsSingle(m, bids)) {
			t.Fatalf("IsSingle of %v: true", bids)
		}
	}
}

// P8.3: Single.
func TestSingle(t *testing.T) {
	for _, x := range []struct {
		m            int
		offers, bids string
	}{
		{1, "5;8;3", "0 5;0 8;0 3"}, {1, "0", "0 0"}, {2, "3 1;2 2", "0 3 1 3;0 2 2 2"}, {2, "0 1000000", "0 0 1000000 1000000"}, {3, "1 2 3", "0 1 2 2 3 3 3 3"}, {3, "3 1 2", "0 3 1 3 2 3 2 3"},
	} {
		if bids, e := bid.Single(x.m, rows(x.offers)); !reflect.DeepEqual(bids, rows(x.bids)) || e != api.OK {
			t.Errorf("Single of %d, %s: %v, %d", x.m, x.offers, bids, e)
		}
	}
	random := rand.New(rand.NewSource(10))
	for range 1500 {
		m := 1 + random.Intn(6)
		var offers, want [][]int64
		for range 1 + random.Intn(6) {
			list := someOffers(random, m, 1000000)
			offers, want = append(offers, list), append(want, singleBy(list))
		}
		bids := must[[][]int64](t)(bid.Single(m, offers))
		if !reflect.DeepEqual(bids, want) || !must[bool](t)(bid.IsSingle(m, bids)) {
			t.Fatalf("Single of %d, %v: %v", m, offers, bids)
		}
	}
	for _, s := range []string{"1", "1 2 3", "1 2;1", "1;1 2", "1 2;1 2 3", "1 2;", "-1 2", "1 2;1 -2", "1000001 0", "0 0;0 1000001", "9223372036854775807 0", "-9223372036854775808 0", "1 2;1 2;1 2;1 2;1 2;1 2;1 2"} {
		refuses(t, "Single of 2, "+s, api.ErrBid, calls(2, rows(s), arguments{})["Single"])
	}
	refuses(t, "Single of 2, nil", api.ErrBid, calls(2, nil, arguments{})["Single"])
	for _, m := range wrongCounts {
		for _, s := range []string{"", "1", "1 2", "1 2 3 4 5 6 7", "-1"} {
			refuses(t, fmt.Sprintf("Single of %d, %s", m, s), api.ErrArg, calls(m, rows(s), arguments{})["Single"])
		}
		refuses(t, fmt.Sprintf("Single of %d, nil", m), api.ErrArg, calls(m, nil, arguments{})["Single"])
	}
}

// P8.4: Prices, by examples.
func TestPrices(t *testing.T) {
	for _, x := range []struct {
		m              int
		offers, prices string
	}{
		{2, "3 1;2 2", "0 0"}, {1, "5;8;3", "5"}, {1, "7", "0"}, {1, "7;7", "7"}, {2, "3 1", "0 0"}, {2, "5 0;8 0;3 0", "5 0"}, {2, "4 4;4 4;4 4", "4 4"}, {2, "4 4;4 4", "0 0"}, {2, "9 5;9 5", "4 0"}, {2, "9 5;9 5;3 3", "7 3"}, {3, "9 8 0;0 9 8;2 0 0;0 0 1", "2 1 0"}, {3, "9 8 0;0 9 8;5 0 0;0 0 1", "3 2 1"}, {3, "9 8 0;0 9 8;3 0 0;0 0 4", "3 2 1"}, {2, "0 0;0 0;0 0", "0 0"}, {2, "1000000 1000000;1000000 1000000;1000000 1000000", "1000000 1000000"},
	} {
		bids := must[[][]int64](t)(bid.Single(x.m, rows(x.offers)))
		if prices, e := bid.Prices(x.m, bids); !slices.Equal(prices, row(x.prices)) || e != api.OK {
			t.Errorf("Prices of %d, %s: %v, %d", x.m, x.offers, prices, e)
		}
	}
	for _, s := range []string{"0 0 0 1", "0 3 1 3;0 2 2 3", "0 1 2 3", "0 6 6 12"} {
		refuses(t, "Prices of "+s, api.ErrNone, calls(2, rows(s), arguments{})["Prices"])
	}
}

// eachPrices gives all lists of m prices from 0 to most.
func eachPrices(m int, most int64, visit func(prices []int64)) {
	prices := make([]int64, m)
	var choose func(i int)
	choose = func(i int) {
		if i == m {
			visit(prices)
			return
		}
		for prices[i] = 0; prices[i] <= most; prices[i]++ {
			choose(i + 1)
		}
	}
	choose(0)
}

// P8.4: each of the prices is as small as in any that clear the first best allocation.
func TestLeastPrices(t *testing.T) {
	random := rand.New(rand.NewSource(11))
	for range 3000 {
		m, n, most := 1+random.Intn(3), 1+random.Intn(5), int64(1+random.Intn(7))
		bids := someSingle(random, m, n, most)
		_, l := bestOf(m, bids)
		least := slices.Repeat([]int64{most + 1}, m)
		eachPrices(m, most, func(prices []int64) {
			if clearsBy(m, bids, l, prices) {
				for i, p := range prices {
					least[i] = min(least[i], p)
				}
			}
		})
		if prices, e := bid.Prices(m, bids); !slices.Equal(prices, least) || e != api.OK {
			t.Fatalf("Prices of %d, %v: %v, %d instead of %v", m, bids, prices, e, least)
		}
	}
}

// P8.7: the prices of single bids clear, and are what those pay who get the items.
func TestPricesArePayments(t *testing.T) {
	random := rand.New(rand.NewSource(12))
	for k := range 3000 {
		m, n := 1+random.Intn(6), 1+random.Intn(6)
		bids := someSingle(random, m, n, limits[k%len(limits)])
		prices := must[[]int64](t)(bid.Prices(m, bids))
		payments := must[[]int64](t)(bid.Payments(m, bids))
		_, l, _ := bid.Best(m, bids)
		if len(prices) != m || !clearsBy(m, bids, l, prices) || !must[bool](t)(bid.Clears(m, bids, l, prices)) {
			t.Fatalf("Prices of %d, %v: %v", m, bids, prices)
		}
		for i, b := range l {
			var sum int64
			for item, p := range prices {
				sum += int64(b>>item&1) * p
			}
			if sum != payments[i] {
				t.Fatalf("%d, %v: prices %v, payments %v", m, bids, prices, payments)
			}
		}
	}
}

// P8.4: Clears, by examples.
func TestClears(t *testing.T) {
	for _, x := range []struct {
		m               int
		bids, l, prices string
		want            bool
	}{
		{1, "0 5;0 8;0 3", "0 1 0", "5", true}, {1, "0 5;0 8;0 3", "0 1 0", "8", true}, {1, "0 5;0 8;0 3", "0 1 0", "4", false}, {1, "0 5;0 8;0 3", "0 1 0", "9", false}, {1, "0 5;0 8;0 3", "1 0 0", "5", false}, {1, "0 5;0 8;0 3", "0 0 0", "8", false}, {1, "0 5;0 8;0 3", "0 0 0", "0", false},
		{1, "0 0", "0", "0", true}, {1, "0 0", "0", "1", false}, {1, "0 0", "1", "0", true}, {1, "0 0", "1", "1", false}, {2, "0 3 1 3;0 2 2 2", "1 2", "0 0", true}, {2, "0 3 1 3;0 2 2 2", "1 2", "2 1", true}, {2, "0 3 1 3;0 2 2 2", "1 2", "3 2", true}, {2, "0 3 1 3;0 2 2 2", "1 2", "0 1", false}, {2, "0 3 1 3;0 2 2 2", "1 2", "3 0", false}, {2, "0 3 1 3;0 2 2 2", "1 2", "2 0", true}, {2, "0 3 1 3;0 2 2 2", "2 1", "0 0", false},
		{2, "0 4 4 4", "1", "0 0", true}, {2, "0 4 4 4", "3", "0 0", true}, {2, "0 4 4 4", "3", "0 1", false}, {2, "0 4 4 4", "3", "1 0", false}, {2, "0 4 4 4", "1", "0 1000000000", false}, {2, "0 4 4 4;0 0 0 0", "1 2", "0 1", false}, {2, "0 4 4 4;0 0 0 0", "1 2", "0 0", true}, {2, "0 2 2 9", "3", "4 5", true}, {2, "0 2 2 9", "3", "7 2", true}, {2, "0 2 2 9", "3", "7 3", false}, {2, "0 2 2 9", "3", "0 8", false}, {2, "0 2 2 9", "3", "0 7", true}, {2, "0 0 0 10;0 6 6 6;0 6 6 6", "0 1 2", "5 5", true}, {2, "0 0 0 10;0 6 6 6;0 6 6 6", "0 1 2", "4 4", false}, {2, "0 0 0 10;0 6 6 6;0 6 6 6", "0 1 2", "4 6", false}, {2, "0 0 0 10;0 6 6 6;0 6 6 6", "0 1 2", "1000000000 1000000000", false},
	} {
		if got, e := bid.Clears(x.m, rows(x.bids), ints(x.l), row(x.prices)); got != x.want || e != api.OK {
			t.Errorf("Clears of %d, %s, %s, %s: %t, %d", x.m, x.bids, x.l, x.prices, got, e)
		}
	}
}

// P8.4: Clears of any bids, allocations and prices.
func TestAnyClears(t *testing.T) {
	random := rand.New(rand.NewSource(13))
	clear := 0
	for _, x := range examples(random, 3000) {
		_, l, _ := bid.Best(x.m, x.bids)
		if random.Intn(3) == 0 {
			l = someAllocation(random, x.m, len(x.bids))
		}
		prices := someOffers(random, x.m, []int64{0, 2, 10, 1000000, 1000000000}[random.Intn(5)])
		want := clearsBy(x.m, x.bids, l, prices)
		if got, e := bid.Clears(x.m, x.bids, l, prices); got != want || e != api.OK {
			t.Fatalf("Clears of %d, %v, %v, %v: %t, %d", x.m, x.bids, l, prices, got, e)
		}
		if want {
			clear++
		}
	}
	if clear < 100 {
		t.Errorf("%d lists of prices only clear", clear)
	}
}

// someAllocation gives each item to a bidder or to none.
func someAllocation(random *rand.Rand, m, n int) []int {
	out := make([]int, n)
	for item := range m {
		if i := random.Intn(n + 1); i < n {
			out[i] |= 1 << item
		}
	}
	return out
}

// P8.4: the error of Clears.
func TestWrongClears(t *testing.T) {
	bids := rows("0 5 5 9;0 6 6 6")
	for _, x := range []struct{ l, prices string }{
		{"", "0 0"}, {"0", "0 0"}, {"0 0 0", "0 0"}, {"1 1", "0 0"}, {"3 2", "0 0"}, {"4 0", "0 0"}, {"-1 0", "0 0"}, {"0 -4", "0 0"}, {"0 4294967297", "0 0"},
		{"1 2", ""}, {"1 2", "0"}, {"1 2", "0 0 0"}, {"1 2", "-1 0"}, {"1 2", "0 -1"}, {"1 2", "1000000001 0"}, {"1 2", "0 1000000001"}, {"1 2", "0 9223372036854775807"}, {"1 2", "-9223372036854775808 0"}, {"0", "0"},
	} {
		refuses(t, "Clears of "+x.l+", "+x.prices, api.ErrArg, calls(2, bids, arguments{l: ints(x.l), prices: row(x.prices)})["Clears"])
	}
}

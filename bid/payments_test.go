package bid_test

import (
	"fmt"
	"math"
	"math/rand"
	"slices"
	"testing"

	"squeegee/api"
	"squeegee/bid"
)

// P8.2: Payments.
func TestPayments(t *testing.T) {
	for _, x := range []struct {
		m              int
		bids, payments string
	}{
		{1, "0 5;0 8;0 3", "0 5 0"}, {2, "0 0 0 10;0 6 6 6;0 6 6 6", "0 4 4"}, {2, "0 3 1 3;0 2 2 2", "0 0"}, // the chapter's
		{1, "0 7", "0"}, {1, "0 7;0 7", "0 7"}, {1, "0 0;0 0", "0 0"}, {2, "0 0 0 10;0 3 3 3;0 3 3 3", "6 0 0"}, {2, "0 3 3 3;0 0 0 10;0 3 3 3", "0 6 0"}, {2, "0 1 2 3;0 1 2 3", "0 3"}, {2, "0 4 4 4;0 4 4 4;0 4 4 4", "0 4 4"}, {2, "0 6 6 12;0 6 6 6;0 6 6 6", "0 6 6"},
	} {
		payments, e := bid.Payments(x.m, rows(x.bids))
		if !slices.Equal(payments, row(x.payments)) || e != api.OK {
			t.Errorf("Payments of %d, %s: %v, %d", x.m, x.bids, payments, e)
		}
	}
	random := rand.New(rand.NewSource(5))
	for _, x := range append(examples(random, 1200), example{6, someBids(random, 6, 6, 1000000)}, example{6, someBids(random, 6, 6, 2)}) {
		checkPayments(t, x.m, x.bids)
	}
}

// checkPayments checks payments by their definition, and P8.6: they are from 0 to the offers.
func checkPayments(t *testing.T, m int, bids [][]int64) {
	t.Helper()
	payments, e := bid.Payments(m, bids)
	if want := paymentsOf(m, bids); !slices.Equal(payments, want) || e != api.OK {
		t.Fatalf("Payments of %d, %v: %v, %d instead of %v", m, bids, payments, e, want)
	}
	_, l, _ := bid.Best(m, bids)
	for i, b := range l {
		if payments[i] < 0 || payments[i] > bids[i][b] {
			t.Fatalf("Payments of %d, %v: %v", m, bids, payments)
		}
	}
}

// P8.2: Gain, with its examples.
func TestGain(t *testing.T) {
	for _, x := range []struct {
		m     int
		bids  string
		who   int
		offer string
		want  int64
	}{
		{1, "0 5;0 8;0 3", 1, "0 8", 3}, {1, "0 5;0 8;0 3", 1, "0 6", 3}, {1, "0 5;0 8;0 3", 1, "0 1000000", 3}, {1, "0 5;0 8;0 3", 1, "0 5", 3}, {1, "0 5;0 8;0 3", 1, "0 4", 0}, {1, "0 5;0 8;0 3", 1, "0 0", 0}, {1, "0 5;0 8;0 3", 0, "0 5", 0}, {1, "0 5;0 8;0 3", 0, "0 9", -3}, {1, "0 5;0 8;0 3", 2, "0 1000000", -5},
		{1, "0 7", 0, "0 1", 7}, {1, "0 7", 0, "0 0", 0}, {2, "0 0 0 10;0 6 6 6;0 6 6 6", 0, "0 0 0 10", 0}, {2, "0 0 0 10;0 6 6 6;0 6 6 6", 0, "0 0 0 13", -2}, {2, "0 0 0 10;0 6 6 6;0 6 6 6", 1, "0 6 6 6", 2}, {2, "0 0 0 10;0 6 6 6;0 6 6 6", 2, "0 0 3 3", 0}, {2, "0 0 0 10;0 6 6 6;0 6 6 6", 2, "0 0 5 5", 2}, {2, "0 0 0 10;0 6 6 6;0 6 6 6", 2, "0 0 0 20", -4},
	} {
		if got, e := bid.Gain(x.m, rows(x.bids), x.who, row(x.offer)); got != x.want || e != api.OK {
			t.Errorf("Gain of %d, %s, %d, %s: %d, %d", x.m, x.bids, x.who, x.offer, got, e)
		}
	}
}

// P8.2, P8.6: Gain goes by its definition, and with a true offer it is the greatest.
func TestLies(t *testing.T) {
	random := rand.New(rand.NewSource(6))
	worse := 0
	for k, x := range examples(random, 1000) {
		who := random.Intn(len(x.bids))
		own := x.bids[who]
		truth, e := bid.Gain(x.m, x.bids, who, own)
		_, l := bestOf(x.m, x.bids)
		if want := own[l[who]] - paymentsOf(x.m, x.bids)[who]; truth != want || e != api.OK {
			t.Fatalf("Gain of %d, %v, %d with the true offer: %d, %d", x.m, x.bids, who, truth, e)
		}
		for range 3 {
			offer := someBid(random, x.m, limits[k%len(limits)])
			changed := put(x.bids, who, offer)
			_, l := bestOf(x.m, changed)
			want := own[l[who]] - paymentsOf(x.m, changed)[who]
			got, e := bid.Gain(x.m, x.bids, who, offer)
			if got != want || e != api.OK || got > truth {
				t.Fatalf("Gain of %d, %v, %d, %v: %d, %d instead of %d, at most %d", x.m, x.bids, who, offer, got, e, want, truth)
			}
			if got < truth {
				worse++
			}
		}
	}
	if worse < 100 {
		t.Errorf("%d lies only are worse", worse)
	}
}

// P8.2: the errors of Gain, ErrArg first.
func TestWrongGain(t *testing.T) {
	bids := rows("0 5 5 9;0 6 6 6")
	wrong := notBids()
	for _, name := range []string{"", "0 1", "0 1 1", "0 1 1 1 1", "1 1 1 1", "0 -1 0 0", "0 0 0 1000001", "0 2 1 1", "0 5 5 4"} {
		wrong[name] = rows(name)
	}
	for name, offer := range wrong {
		if len(offer) != 1 {
			continue
		}
		for who := range 2 {
			refuses(t, fmt.Sprintf("Gain of %d, %s", who, name), api.ErrBid, calls(2, bids, arguments{who: who, offer: offer[0]})["Gain"])
		}
		for _, who := range []int{-1, 2, math.MinInt, math.MaxInt} {
			refuses(t, fmt.Sprintf("Gain of %d, %s", who, name), api.ErrArg, calls(2, bids, arguments{who: who, offer: offer[0]})["Gain"])
		}
	}
	for _, who := range []int{-1, 2, 6, math.MinInt, math.MaxInt} {
		refuses(t, fmt.Sprintf("Gain of %d", who), api.ErrArg, calls(2, bids, arguments{who: who, offer: row("0 1 1 1")})["Gain"])
	}
}

// P8.5: Second.
func TestSecond(t *testing.T) {
	for _, x := range []struct {
		bids   string
		first  int
		second int64
	}{
		{"5 8 3", 1, 5}, {"7", 0, 0}, {"0", 0, 0}, {"0 0", 0, 0}, {"7 7", 0, 7}, {"3 7 7", 1, 7}, {"7 3 7", 0, 7}, {"1 2 3", 2, 2}, {"3 2 1", 0, 2}, {"0 9", 1, 0}, {"9 0", 0, 0}, {"1000000000000 999999999999", 0, 999999999999}, {"1 1000000000000 5 1000000000000", 1, 1000000000000},
	} {
		if first, second, e := bid.Second(row(x.bids)); first != x.first || second != x.second || e != api.OK {
			t.Errorf("Second of %s: %d, %d, %d", x.bids, first, second, e)
		}
	}
	random := rand.New(rand.NewSource(7))
	for range 2000 {
		list := someOffers(random, 1+random.Intn(100), []int64{1, 5, 1000, 1000000000000}[random.Intn(4)])
		sorted := slices.Sorted(slices.Values(append([]int64{0}, list...)))
		first, second, e := bid.Second(list)
		if e != api.OK || first != slices.Index(list, sorted[len(sorted)-1]) || second != sorted[len(sorted)-2] {
			t.Fatalf("Second of %v: %d, %d, %d", list, first, second, e)
		}
	}
	for _, list := range [][]int64{nil, {}, {-1}, {1000000000001}, {5, -1}, {5, 1000000000001}, {math.MinInt64, 3}, {3, math.MaxInt64}, make([]int64, 101), make([]int64, 1000)} {
		if first, second, e := bid.Second(list); first != 0 || second != 0 || e != api.ErrArg {
			t.Errorf("Second of %.50s: %d, %d, %d", fmt.Sprint(list), first, second, e)
		}
	}
}

// P8.6: with one item, who gets it pays the second greatest offer.
func TestOneItem(t *testing.T) {
	random := rand.New(rand.NewSource(8))
	for k := range 2000 {
		offers := someOffers(random, 1+random.Intn(6), limits[k%len(limits)])
		var bids [][]int64
		for _, o := range offers {
			bids = append(bids, []int64{0, o})
		}
		payments := must[[]int64](t)(bid.Payments(1, bids))
		_, l, _ := bid.Best(1, bids)
		_, second, _ := bid.Second(offers)
		for i, b := range l {
			if b == 1 && payments[i] != second || b == 0 && payments[i] != 0 {
				t.Fatalf("Payments of %v: %v, Best %v", offers, payments, l)
			}
		}
	}
}

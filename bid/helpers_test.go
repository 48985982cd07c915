package bid_test

import (
	"fmt"
	"math/bits"
	"math/rand"
	"reflect"
	"slices"
	"strconv"
	"strings"
	"testing"

	"squeegee/api"
	"squeegee/bid"
)

// row is a list of numbers, with spaces between them.
func row(s string) []int64 {
	var out []int64
	for _, f := range strings.Fields(s) {
		n, e := strconv.ParseInt(f, 10, 64)
		if e != nil {
			panic("not a number: " + f)
		}
		out = append(out, n)
	}
	return out
}

// ints is a list of ints.
func ints(s string) []int {
	var out []int
	for _, n := range row(s) {
		out = append(out, int(n))
	}
	return out
}

// rows are lists of numbers, with ; between them.
func rows(s string) [][]int64 {
	var out [][]int64
	for _, r := range strings.Split(s, ";") {
		out = append(out, row(r))
	}
	return out
}

// isZero reports whether a result is the zero value.
func isZero(x any) bool {
	v := reflect.ValueOf(x)
	return !v.IsValid() || v.IsZero() || v.Kind() == reflect.Slice && v.Len() == 0
}

// must is a result that has no error.
func must[T any](t *testing.T) func(T, api.Errno) T {
	return func(x T, e api.Errno) T {
		t.Helper()
		if e != api.OK {
			t.Fatalf("error %d", e)
		}
		return x
	}
}

// total adds up what bidders offer for their bundles.
func total(bids [][]int64, l []int) int64 {
	var out int64
	for i, b := range l {
		out += bids[i][b]
	}
	return out
}

// eachAllocation gives all allocations of m items to n bidders, in the order in which lists are compared.
func eachAllocation(m, n int, visit func(l []int)) {
	var extend func(l []int, taken int)
	extend = func(l []int, taken int) {
		if len(l) == n {
			visit(l)
			return
		}
		for b := range 1 << m {
			if b&taken == 0 {
				extend(append(l, b), taken|b)
			}
		}
	}
	extend(make([]int, 0, n), 0)
}

// bestOf goes through all allocations.
func bestOf(m int, bids [][]int64) (int64, []int) {
	best, first := int64(-1), []int(nil)
	eachAllocation(m, len(bids), func(l []int) {
		if w := total(bids, l); w > best {
			best, first = w, slices.Clone(l)
		}
	})
	return best, first
}

// put is bids with another offer in place of a bidder's.
func put(bids [][]int64, who int, offer []int64) [][]int64 {
	out := slices.Clone(bids)
	out[who] = offer
	return out
}

// paymentsOf goes by the definition: a bidder that is not there is one that offers 0.
func paymentsOf(m int, bids [][]int64) []int64 {
	best, first := bestOf(m, bids)
	var out []int64
	for i, b := range first {
		without, _ := bestOf(m, put(bids, i, make([]int64, 1<<m)))
		out = append(out, without-(best-bids[i][b]))
	}
	return out
}

// clearsBy goes by the definition.
func clearsBy(m int, bids [][]int64, l []int, prices []int64) bool {
	cost := func(b int) int64 {
		var out int64
		for i, p := range prices {
			out += int64(b>>i&1) * p
		}
		return out
	}
	left := 1<<m - 1
	for i, own := range l {
		for b := range 1 << m {
			if bids[i][b]-cost(b) > bids[i][own]-cost(own) {
				return false
			}
		}
		left &^= own
	}
	return cost(left) == 0
}

// isCoreBy goes by the definition; who is not in a set of bidders offers 0.
func isCoreBy(m int, bids [][]int64, payments []int64) bool {
	_, first := bestOf(m, bids)
	for set := range 1 << len(bids) {
		only := slices.Clone(bids)
		var own, paid int64
		for i, b := range first {
			if payments[i] < 0 || payments[i] > bids[i][b] {
				return false
			}
			if set>>i&1 == 1 {
				own += bids[i][b]
			} else {
				only[i] = make([]int64, 1<<m)
				paid += payments[i]
			}
		}
		if best, _ := bestOf(m, only); paid < best-own {
			return false
		}
	}
	return true
}

// singleBy is a single bid by its definition.
func singleBy(offers []int64) []int64 {
	out := make([]int64, 1<<len(offers))
	for b := range out {
		for i, o := range offers {
			if b>>i&1 == 1 && o > out[b] {
				out[b] = o
			}
		}
	}
	return out
}

// someOffers are offers for n things, each at most most.
func someOffers(random *rand.Rand, n int, most int64) []int64 {
	var out []int64
	for range n {
		out = append(out, random.Int63n(most+1))
	}
	return out
}

// someBid is a bid of one of several kinds, with offers of at most most.
func someBid(random *rand.Rand, m int, most int64) []int64 {
	out := make([]int64, 1<<m)
	switch random.Intn(5) {
	case 0: // single
		return singleBy(someOffers(random, m, most))
	case 1: // items add up
		each := someOffers(random, m, most/int64(m))
		for b := range out {
			for i, o := range each {
				out[b] += int64(b>>i&1) * o
			}
		}
	case 2: // only for all of some items
		want, offer := 1+random.Intn(1<<m-1), random.Int63n(most+1)
		for b := range out {
			if b&want == want {
				out[b] = offer
			}
		}
	case 3: // only the number of items counts
		each := someOffers(random, m, most)
		slices.Sort(each)
		for b := range out {
			if k := bits.OnesCount(uint(b)); k > 0 {
				out[b] = each[k-1]
			}
		}
	default: // any
		each := someOffers(random, 1<<m, most)
		for b := 1; b < 1<<m; b++ {
			if random.Intn(3) == 0 {
				out[b] = each[b]
			}
			for i := range m {
				if b>>i&1 == 1 {
					out[b] = max(out[b], out[b&^(1<<i)])
				}
			}
		}
	}
	return out
}

// someBids are bids of n bidders.
func someBids(random *rand.Rand, m, n int, most int64) [][]int64 {
	var out [][]int64
	for range n {
		out = append(out, someBid(random, m, most))
	}
	return out
}

// someSingle are single bids of n bidders.
func someSingle(random *rand.Rand, m, n int, most int64) [][]int64 {
	var out [][]int64
	for range n {
		out = append(out, singleBy(someOffers(random, m, most)))
	}
	return out
}

// example is bids for m items.
type example struct {
	m    int
	bids [][]int64
}

// limits are greatest offers: low ones, so that many allocations are equally good, and the greatest.
var limits = []int64{1, 2, 5, 30, 1000000}

// examples are bids of all kinds, some of them single bids, few enough that all their allocations can be gone through.
func examples(random *rand.Rand, number int) []example {
	var out []example
	for k := range number {
		m, n := 1+random.Intn(4), 1+random.Intn(5)
		most := limits[k%len(limits)]
		bids := someBids(random, m, n, most)
		if random.Intn(3) == 0 {
			bids = someSingle(random, m, n, most)
		}
		out = append(out, example{m, bids})
	}
	return out
}

// result is all that a call returns but the error.
type result []any

// arguments are what calls are given beside m and bids.
type arguments struct {
	who    int
	offer  []int64
	l      []int
	prices []int64
}

// calls are all calls but IsAllocation and Second.
func calls(m int, bids [][]int64, x arguments) map[string]func() (result, api.Errno) {
	one := func(x any, e api.Errno) (result, api.Errno) { return result{x}, e }
	return map[string]func() (result, api.Errno){
		"Check": func() (result, api.Errno) { return nil, bid.Check(m, bids) },
		"Best": func() (result, api.Errno) {
			worth, l, e := bid.Best(m, bids)
			return result{worth, l}, e
		},
		"Payments": func() (result, api.Errno) { x, e := bid.Payments(m, bids); return one(x, e) },
		"Gain":     func() (result, api.Errno) { x, e := bid.Gain(m, bids, x.who, x.offer); return one(x, e) },
		"IsSingle": func() (result, api.Errno) { x, e := bid.IsSingle(m, bids); return one(x, e) },
		"Single":   func() (result, api.Errno) { x, e := bid.Single(m, bids); return one(x, e) },
		"Prices":   func() (result, api.Errno) { x, e := bid.Prices(m, bids); return one(x, e) },
		"Clears":   func() (result, api.Errno) { x, e := bid.Clears(m, bids, x.l, x.prices); return one(x, e) },
		"IsCore":   func() (result, api.Errno) { x, e := bid.IsCore(m, bids, x.prices); return one(x, e) },
	}
}

// refuses checks that a call returns an error and nothing else.
func refuses(t *testing.T, name string, want api.Errno, call func() (result, api.Errno)) {
	t.Helper()
	x, e := call()
	if e != want {
		t.Errorf("%s: error %d instead of %d", name, e, want)
	}
	for _, part := range x {
		if !isZero(part) {
			t.Errorf("%s: %.100s next to an error", name, fmt.Sprint(part))
		}
	}
}

package bid_test

import (
	"fmt"
	"math"
	"math/rand"
	"reflect"
	"testing"

	"squeegee/api"
	"squeegee/bid"
)

// anyNumber is a number that may be an offer, or one that may not.
func anyNumber(random *rand.Rand) int64 {
	return []int64{0, 0, 1, 2, 3, 1000000, 1000001, -1, 1000000000, 1000000001, math.MinInt64, math.MaxInt64, math.MinInt32, 1 << 32}[random.Intn(14)]
}

// anyList is a list of any numbers, mostly as long as it should be.
func anyList(random *rand.Rand, length int) []int64 {
	if random.Intn(6) == 0 {
		length = random.Intn(9)
	}
	out := someOffers(random, length, 4)
	if length > 0 && random.Intn(3) == 0 {
		out[random.Intn(length)] = anyNumber(random)
	}
	return out
}

// anyArguments may be right, or not.
func anyArguments(random *rand.Rand, m, n int) arguments {
	var l []int
	for _, b := range anyList(random, n) {
		l = append(l, int(b))
	}
	if random.Intn(2) == 0 {
		l = someAllocation(random, m, n)
	}
	offer := anyList(random, 1<<m)
	if random.Intn(2) == 0 {
		offer = someBid(random, m, 9)
	}
	length := m
	if random.Intn(2) == 0 {
		length = n
	}
	return arguments{who: int(random.Int63n(int64(n)+3)) - 1, offer: offer, l: l, prices: anyList(random, length)}
}

// P1, R2, R7: no call panics, whatever it is given; with an error it returns nothing else; and all calls say the same when they are asked again.
func TestAnyData(t *testing.T) {
	random := rand.New(rand.NewSource(16))
	right := map[string]int{}
	for _, x := range examples(random, 4000) {
		m, bids := x.m, x.bids
		args := anyArguments(random, m, len(bids))
		switch random.Intn(8) {
		case 0:
			m = int(anyNumber(random))
		case 1:
			bids[random.Intn(len(bids))][random.Intn(1<<m)] = anyNumber(random)
		case 2:
			bids[random.Intn(len(bids))] = anyList(random, 1<<m)
		case 3:
			bids = append(bids, bids...)
		case 4: // what Single is given
			for i := range bids {
				bids[i] = anyList(random, m)
			}
		}
		is := bid.IsAllocation(m, bids, args.l)
		if is && bid.Check(m, bids) != api.OK || is != bid.IsAllocation(m, bids, args.l) {
			t.Fatalf("IsAllocation of %d, %v, %v: %t", m, bids, args.l, is)
		}
		for name, call := range calls(m, bids, args) {
			x, e := call()
			y, again := call()
			if !reflect.DeepEqual(x, y) || e != again {
				t.Fatalf("%s of %d, %v, %v: %v, %d and %v, %d", name, m, bids, args, x, e, y, again)
			}
			for _, part := range x {
				if e != api.OK && !isZero(part) {
					t.Fatalf("%s of %d, %v, %v: %v, %d", name, m, bids, args, x, e)
				}
			}
			if e == api.OK {
				right[name]++
			}
		}
		bid.Second(args.prices)
	}
	for name := range calls(1, nil, arguments{}) {
		if right[name] < 100 {
			t.Errorf("%s has a result %d times only", name, right[name])
		}
	}
}

// spoil changes all numbers of a result.
func spoil(x any) {
	switch x := x.(type) {
	case []int64:
		for i := range x {
			x[i] = -77
		}
	case [][]int64:
		for i := range x {
			spoil(x[i])
			_ = append(x[i], -78)
		}
	case []int:
		for i := range x {
			x[i] = -77
		}
	}
}

// lengthened is a list with a number beyond its length.
func lengthened[T any](list []T, beyond T) []T {
	return append(list[:len(list):len(list)], beyond)[:len(list)]
}

// P8.1 to P8.5, R4: arguments are not changed, nor what lies beyond their lengths, nor kept; and results share no memory with them.
func TestMemory(t *testing.T) {
	random := rand.New(rand.NewSource(17))
	for k, x := range examples(random, 400) {
		if k%2 == 0 { // what Single is given
			for i := range x.bids {
				x.bids[i] = someOffers(random, x.m, 9)
			}
		}
		for i := range x.bids {
			x.bids[i] = lengthened(x.bids[i], 99)
		}
		bids := lengthened(x.bids, row("99"))
		args := anyArguments(random, x.m, len(bids))
		args.offer, args.l, args.prices = lengthened(args.offer, 99), lengthened(args.l, 99), lengthened(args.prices, 99)
		text := func() string {
			whole := ""
			for i := range len(bids) {
				whole += fmt.Sprint(bids[i][:len(bids[i])+1])
			}
			return whole + fmt.Sprint(bids[:len(bids)+1], args.offer[:len(args.offer)+1], args.l[:len(args.l)+1], args.prices[:len(args.prices)+1])
		}
		was := text()
		bid.IsAllocation(x.m, bids, args.l)
		bid.Second(args.prices)
		for name, call := range calls(x.m, bids, args) {
			out, _ := call()
			first := fmt.Sprint(out...)
			for _, part := range out {
				spoil(part)
			}
			if text() != was {
				t.Fatalf("%s: %s became %s", name, was, text())
			}
			if again, _ := call(); fmt.Sprint(again...) != first {
				t.Fatalf("%s of %s: %s, and then %v", name, was, first, again)
			}
		}
	}
}

// R4: no two lists of Single share memory.
func TestLists(t *testing.T) {
	bids := must[[][]int64](t)(bid.Single(2, rows("1 2;3 4;1 2")))
	for i := range bids {
		was := fmt.Sprint(bids[:i], bids[i+1:])
		spoil(bids[i])
		_ = append(bids[i], -78)
		if fmt.Sprint(bids[:i], bids[i+1:]) != was {
			t.Fatalf("%s became %v", was, bids)
		}
	}
}

package bid

import (
	"math/bits"
	"slices"
)

// single is the single bid with these offers for single items.
func single(offers []int64) []int64 {
	out := make([]int64, 1<<len(offers))
	for b := range out {
		for item, offer := range offers {
			if bundle(b).has(item) {
				out[b] = max(out[b], offer)
			}
		}
	}
	return out
}

// singleOffers lists what a bidder offers for each item alone.
func singleOffers(offers []int64) []int64 {
	var out []int64
	for b := 1; b < len(offers); b *= 2 {
		out = append(out, offers[b])
	}
	return out
}

// isSingle reports whether the bids are single bids.
func (a auction) isSingle() bool {
	for _, offers := range a.bids {
		if !slices.Equal(offers, single(singleOffers(offers))) {
			return false
		}
	}
	return true
}

// market is an auction with an allocation and prices of the items.
type market struct {
	auction
	bundles []int
	prices  []int64
}

// gain is the choice of a bundle by a bidder who pays its prices.
func (m *market) gain(bidder int, b bundle) choice {
	worth := m.bids[bidder][b]
	for item, price := range m.prices {
		if b.has(item) {
			worth -= price
		}
	}
	return choice{worth, b}
}

// favorite is the choice that gains a bidder most: its own one, or if others gain it more, the first one of the best.
func (m *market) favorite(bidder int, own choice) choice {
	out := own
	for b := range m.all.within() {
		if c := m.gain(bidder, b); c.worth > out.worth {
			out = c
		}
	}
	return out
}

// clears reports whether each bidder's bundle is a favorite one, and items in no bundle are free.
func (m *market) clears() bool {
	left := m.all
	for i, b := range m.bundles {
		own := m.gain(i, bundle(b))
		if m.favorite(i, own) != own {
			return false
		}
		left &^= bundle(b)
	}
	for item, price := range m.prices {
		if left.has(item) && price != 0 {
			return false
		}
	}
	return true
}

// rise raises a price if a bidder would rather have another bundle, so far that it would no more, and reports whether it did. The bids are single bids, so that the first favorite bundle is a single item. The price does not become greater than in any prices that clear, as the prices before were not.
func (m *market) rise() bool {
	for i, b := range m.bundles {
		own := m.gain(i, bundle(b))
		if wish := m.favorite(i, own); wish != own {
			m.prices[bits.TrailingZeros(uint(wish.bundle))] += wish.worth - own.worth
			return true
		}
	}
	return false
}

// leastPrices are the least item prices that clear the first best allocation of single bids. There are some for each best allocation, so that the prices rise no more at some time; and items in no bundle are free then, because they are so in those.
func (a auction) leastPrices() []int64 {
	m := &market{a, a.first(), make([]int64, bits.Len(uint(a.all)))}
	rises := m.rise
	for rises() {
	}
	return m.prices
}

package bid

import "squeegee/api"

const (
	maxItems   = 6
	maxBidders = 6
	maxOffer   = 1_000_000
	maxPrice   = 1_000_000_000
	maxNumbers = 100 // of Second
	maxNumber  = 1_000_000_000_000
)

// auction is bids that were found to be right, and the bundle of all items.
type auction struct {
	all  bundle
	bids [][]int64
}

// newAuction is the auction of bids for m items, or ErrArg for m, or ErrBid.
func newAuction(m int, bids [][]int64) (auction, api.Errno) {
	if m < 1 || m > maxItems {
		return auction{}, api.ErrArg
	}
	a := auction{allItems(m), bids}
	if !a.isRight() {
		return auction{}, api.ErrBid
	}
	return a, api.OK
}

func (a auction) isRight() bool {
	if !areSoMany(a.bids) {
		return false
	}
	for _, offers := range a.bids {
		if len(offers) != int(a.all)+1 || offers[0] != 0 || !areFrom0(offers, maxOffer) || falls(offers) {
			return false
		}
	}
	return true
}

// areSoMany reports whether there are as many lists as there may be bidders.
func areSoMany(lists [][]int64) bool {
	return len(lists) >= 1 && len(lists) <= maxBidders
}

// falls reports whether the offer for some bundle is less than that for one within it.
func falls(offers []int64) bool {
	found := false
search:
	for b, offer := range offers {
		for part := range bundle(b).within() {
			if offers[part] > offer {
				found = true
				break search
			}
		}
	}
	return found
}

// isAllocation reports whether l has a bundle for each bidder, and no item twice.
func (a auction) isAllocation(l []int) bool {
	if len(l) != len(a.bids) {
		return false
	}
	left := a.all
	for _, b := range l {
		if bundle(b)&^left != 0 { // so it is with numbers that are no bundles, too
			return false
		}
		left &^= bundle(b)
	}
	return true
}

// offered lists what the bidders offer for their bundles.
func (a auction) offered(l []int) []int64 {
	var out []int64
	for i, b := range l {
		out = append(out, a.bids[i][b])
	}
	return out
}

package bid

import "slices"

// worths are, for some bidders, the best worths of all sets of items.
type worths [1 << maxItems]int64

// take is the choice of one more bidder from a set of items if the others get the rest, which is worth most to all of them; the one with the least bundle, if there are several.
func (w *worths) take(offers []int64, set bundle) choice {
	var out choice
	for b := range set.within() {
		if worth := offers[b] + w[set&^b]; worth > out.worth {
			out = choice{worth, b}
		}
	}
	return out
}

// with are the best worths for one more bidder.
func (w *worths) with(offers []int64) worths {
	var out worths
	for set := range offers {
		out[set] = w.take(offers, bundle(set)).worth
	}
	return out
}

// first is the first best allocation: one bidder after the other takes the least bundle with which what all of those after it can make of the rest is best.
func (a auction) first() []int {
	later := make([]worths, len(a.bids))
	for i := len(a.bids) - 1; i > 0; i-- {
		later[i-1] = later[i].with(a.bids[i])
	}
	var out []int
	left := a.all
	for i, offers := range a.bids {
		b := later[i].take(offers, left).bundle
		out = append(out, int(b))
		left &^= b
	}
	return out
}

// alone is the best worth of some of the bids alone.
func (a auction) alone(bids ...[]int64) int64 {
	var w worths
	for _, offers := range bids {
		w = w.with(offers)
	}
	return w[a.all]
}

func (a auction) payments() []int64 {
	offered := a.offered(a.first())
	best := sum(offered...)
	var out []int64
	for i, own := range offered {
		others := slices.Concat(a.bids[:i], a.bids[i+1:])
		out = append(out, a.alone(others...)-(best-own))
	}
	return out
}

// isCore reports whether payments, one for each bidder, are a core payment list.
func (a auction) isCore(payments []int64) bool {
	offered := a.offered(a.first())
	for i, p := range payments {
		if p < 0 || p > offered[i] {
			return false
		}
	}
	for set := range 1 << len(a.bids) {
		if a.isBlocked(set, offered, payments) {
			return false
		}
	}
	return true
}

// isBlocked reports whether a set of bidders, as bits, could make more of all items than what it is offered for them and what the others pay.
func (a auction) isBlocked(set int, offered, payments []int64) bool {
	var bids [][]int64
	var own, paid []int64
	for i, offers := range a.bids {
		if set>>i&1 == 1 {
			bids, own = append(bids, offers), append(own, offered[i])
		} else {
			paid = append(paid, payments[i])
		}
	}
	return a.alone(bids...) > sum(own...)+sum(paid...)
}

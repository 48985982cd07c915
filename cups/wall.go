package cups

import (
	"cmp"
	"iter"
	"slices"

	"squeegee/api"
)

const (
	maxPoints = 14
	maxNumber = 1000
	maxAll    = 2 * maxPoints // of two lists together
)

// side is where a point is if one looks along a line; 0 is on the line.
type side int8

const (
	right side = -1
	left  side = 1
)

// isNear reports whether the numbers of a point are in range.
func isNear(p [2]int) bool {
	return p[0] >= -maxNumber && p[0] <= maxNumber && p[1] >= -maxNumber && p[1] <= maxNumber
}

// arePoints reports whether a list is one of points.
func arePoints(l [][2]int) bool {
	if len(l) < 1 || len(l) > maxPoints {
		return false
	}
	for _, p := range l {
		if !isNear(p) {
			return false
		}
	}
	return areDifferent(l)
}

func areDifferent(points [][2]int) bool {
	for i, p := range points {
		if slices.Contains(points[:i], p) {
			return false
		}
	}
	return true
}

// turn is the side of c along the line from a to b.
func turn(a, b, c [2]int) side {
	return side(cmp.Compare((b[0]-a[0])*(c[1]-a[1]), (b[1]-a[1])*(c[0]-a[0])))
}

// wall is different points, the turns of all three of them, and their indices in the order.
type wall struct {
	points [][2]int
	turns  [maxAll][maxAll][maxAll]side
	order  []int
}

// newWall is the wall of some points.
func newWall(points ...[2]int) *wall {
	w := &wall{points: points}
	for i, a := range points {
		w.order = append(w.order, i)
		for j, b := range points {
			for k, c := range points {
				w.turns[i][j][k] = turn(a, b, c)
			}
		}
	}
	slices.SortFunc(w.order, w.compare)
	return w
}

// ask returns what the wall of a list answers: ErrPoint if it is not a list of points, ErrArg if they are not general, or not enough.
func ask[T any](l [][2]int, least int, answer func(*wall) T) (T, api.Errno) {
	var nothing T
	if !arePoints(l) {
		return nothing, api.ErrPoint
	}
	w := newWall(l...)
	if _, found := w.line(); found || len(l) < least {
		return nothing, api.ErrArg
	}
	return answer(w), api.OK
}

// compare tells which of two points is earlier in the order.
func (w *wall) compare(a, b int) int {
	return slices.Compare(w.points[a][:], w.points[b][:])
}

// after gives the points after one, in the order.
func (w *wall) after(p int) iter.Seq[int] {
	return func(yield func(int) bool) {
		for _, later := range w.order[slices.Index(w.order, p)+1:] {
			if !yield(later) {
				return
			}
		}
	}
}

// choices gives the rising lists of k indices, in the order in which lists are compared. A list is kept as it is only until the next one.
func (w *wall) choices(k int) iter.Seq[[]int] {
	return func(yield func([]int) bool) {
		var extend func(list []int, from int) bool
		extend = func(list []int, from int) bool {
			if len(list) == k {
				return yield(list)
			}
			for i := from; i < len(w.points); i++ {
				if !extend(append(list, i), i+1) {
					return false
				}
			}
			return true
		}
		extend(make([]int, 0, k), 0)
	}
}

// line is the first three points on a line, and whether there are any.
func (w *wall) line() ([3]int, bool) {
	for three := range w.choices(3) {
		if w.turns[three[0]][three[1]][three[2]] == 0 {
			return [3]int(three), true
		}
	}
	return [3]int{}, false
}

// are reports whether numbers are indices of points.
func (w *wall) are(points []int) bool {
	for _, p := range points {
		if p < 0 || p >= len(w.points) {
			return false
		}
	}
	return true
}

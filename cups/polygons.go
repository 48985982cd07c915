package cups

import "slices"

// next is the corner of the hull of points that follows one: no point is on the right of the line to it.
func (w *wall) next(corner int, points []int) int {
	out := corner
	for _, p := range points {
		if out == corner || w.turns[corner][out][p] == right {
			out = p
		}
	}
	return out
}

// hull lists the corners of the hull of points, counterclockwise from the first one in the order; one or two points are their own hull.
func (w *wall) hull(points ...int) []int {
	first := slices.MinFunc(points, w.compare)
	out := []int{first}
	for p := w.next(first, points); p != first; p = w.next(p, points) {
		out = append(out, p)
	}
	return out
}

func (w *wall) isPolygon(points []int) bool {
	return len(points) >= 3 && w.are(points) && slices.Equal(points, w.hull(points...))
}

// isInside reports whether a point is on the left of all edges of a polygon.
func (w *wall) isInside(p int, corners []int) bool {
	last := corners[len(corners)-1]
	for _, c := range corners {
		if w.turns[last][c][p] != left {
			return false
		}
		last = c
	}
	return true
}

// isEmpty reports whether no point is inside a polygon; there is none inside one or two points.
func (w *wall) isEmpty(corners ...int) bool {
	for p := range w.points {
		if w.isInside(p, corners) {
			return false
		}
	}
	return true
}

// largest is a polygon with the most corners, of all of them or of the empty ones. Each beginning of a polygon is one, too, and has nothing inside if that is so for the triangles of its first corner with each two that follow one another.
func (w *wall) largest(empty bool) []int {
	var out []int
	var extend func(corners []int)
	extend = func(corners []int) {
		if len(corners) > len(out) {
			out = slices.Clone(corners)
		}
		first, last := corners[0], corners[len(corners)-1]
	candidates:
		for c := range w.after(first) {
			for _, p := range corners[:len(corners)-1] {
				if w.turns[p][last][c] != left {
					continue candidates
				}
			}
			if !empty || w.isEmpty(first, last, c) {
				extend(append(corners, c))
			}
		}
	}
	for first := range w.points {
		extend([]int{first})
	}
	return out
}

func (w *wall) layers() [][]int {
	var out [][]int
	for rest := slices.Clone(w.order); len(rest) > 0; {
		layer := w.hull(rest...)
		out = append(out, layer)
		rest = slices.DeleteFunc(rest, func(p int) bool { return slices.Contains(layer, p) })
	}
	return out
}

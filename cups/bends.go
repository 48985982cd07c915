package cups

import "slices"

// pair is two points, the earlier one in the order first.
type pair struct{ a, b int }

// longest is a list with the most points that is a cup, if it bends to the left, or a cap.
func (w *wall) longest(bend side) []int {
	memory := map[pair][]int{}
	var beginning func(p pair) []int
	beginning = func(p pair) []int {
		if known, ok := memory[p]; ok {
			return known
		}
		rest := []int{p.b}
		for c := range w.after(p.b) {
			if w.turns[p.a][p.b][c] != bend {
				continue
			}
			if list := beginning(pair{p.b, c}); len(list) > len(rest) {
				rest = list
			}
		}
		whole := slices.Insert(slices.Clone(rest), 0, p.a)
		memory[p] = whole
		return whole
	}
	var out []int
	for a := range w.points {
		for b := range w.after(a) {
			if list := beginning(pair{a, b}); len(list) > len(out) {
				out = list
			}
		}
	}
	return out
}

// isBent reports whether points are a cup, if they bend to the left, or a cap.
func (w *wall) isBent(bend side, points []int) bool {
	if len(points) < 2 || !w.are(points) {
		return false
	}
	for i, p := range points[1:] {
		if w.compare(points[i], p) >= 0 || i > 0 && w.turns[points[i-1]][points[i]][p] != bend {
			return false
		}
	}
	return true
}

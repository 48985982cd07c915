package cups

// lead is how many more of some points are on the left of the line from a to b than on the right.
func (w *wall) lead(a, b int, points ...int) int {
	out := 0
	for _, p := range points {
		out += int(w.turns[a][b][p])
	}
	return out
}

// edges lists the numbers of k-edges. By how many more points are on one side of an edge, it is known how many are on the other.
func (w *wall) edges() []int {
	n := len(w.points)
	out := make([]int, n/2)
	for ends := range w.choices(2) {
		more := w.lead(ends[0], ends[1], w.order...)
		out[(n-2-max(more, -more))/2]++
	}
	return out
}

// cross reports whether the segments from a to b and from c to d have a point in common, all four being different.
func (w *wall) cross(a, b, c, d int) bool {
	return w.turns[a][b][c] != w.turns[a][b][d] && w.turns[c][d][a] != w.turns[c][d][b]
}

func (w *wall) crossings() int {
	out := 0
	for four := range w.choices(4) {
		a, b, c, d := four[0], four[1], four[2], four[3]
		for _, x := range [][4]int{{a, b, c, d}, {a, c, b, d}, {a, d, b, c}} {
			if w.cross(x[0], x[1], x[2], x[3]) {
				out++
			}
		}
	}
	return out
}

func (w *wall) squares() int {
	out := 0
	for four := range w.choices(4) {
		if len(w.hull(four...)) == 4 {
			out++
		}
	}
	return out
}

// halving is one of the first n points and one of the others, such that the line through them halves both of these lists. There is one by the ham sandwich theorem, as both have an odd number of points.
func (w *wall) halving(n int) [2][2]int {
	var l, m []int
	for p := range w.points {
		if p < n {
			l = append(l, p)
		} else {
			m = append(m, p)
		}
	}
	for _, a := range l {
		for _, b := range m {
			if w.lead(a, b, l...) == 0 && w.lead(a, b, m...) == 0 {
				return [2][2]int{w.points[a], w.points[b]}
			}
		}
	}
	return [2][2]int{}
}

package num

import "squeegee/api"

const (
	maxSide   = 8  // rows or columns of a matrix
	maxFigure = 20 // digits of a numerator or a denominator in a matrix
)

// Check returns ErrLong, ErrShape or ErrSize if m is not a matrix.
func Check(m [][]Rat) api.Errno {
	if len(m) > maxSide || len(m) > 0 && len(m[0]) > maxSide {
		return api.ErrLong
	}
	if len(m) == 0 || len(m[0]) == 0 {
		return api.ErrShape
	}
	for _, row := range m {
		if len(row) != len(m[0]) {
			return api.ErrShape
		}
	}
	for _, row := range m {
		if !areFigures(row) {
			return api.ErrSize
		}
	}
	return api.OK
}

// areFigures reports whether all the fractions may stand in a matrix.
func areFigures(l []Rat) bool {
	for _, r := range l {
		if r.top.size.digits() > maxFigure || r.low.digits() > maxFigure {
			return false
		}
	}
	return true
}

func checkSquare(m [][]Rat) api.Errno {
	if e := Check(m); e != api.OK {
		return e
	}
	if len(m) != len(m[0]) {
		return api.ErrShape
	}
	return api.OK
}

func checkEquations(m [][]Rat, b []Rat) api.Errno {
	if e := Check(m); e != api.OK {
		return e
	}
	if len(b) != len(m) {
		return api.ErrShape
	}
	if !areFigures(b) {
		return api.ErrSize
	}
	return api.OK
}

// eliminated is the grid of m, with beside[i] beside its row i, after the elimination.
func eliminated(m, beside [][]Rat) *grid {
	g := newGrid(m, beside)
	g.eliminate()
	return g
}

// Det returns the determinant of a square matrix.
func Det(m [][]Rat) (Rat, api.Errno) {
	if e := checkSquare(m); e != api.OK {
		return Rat{}, e
	}
	return attempt(func() Rat { return eliminated(m, nil).determinant() })
}

// Rank returns the rank.
func Rank(m [][]Rat) (int, api.Errno) {
	if e := Check(m); e != api.OK {
		return 0, e
	}
	return attempt(func() int { return len(eliminated(m, nil).found) })
}

// Solve returns the solution of the equations of m and b in which the unknowns without a pivot are 0, and how many these are, or ErrNone.
func Solve(m [][]Rat, b []Rat) ([]Rat, int, api.Errno) {
	if e := checkEquations(m, b); e != api.OK {
		return nil, 0, e
	}
	beside := make([][]Rat, len(b))
	for i, r := range b {
		beside[i] = []Rat{r}
	}
	g := eliminated(m, beside)
	for _, row := range g.rows[len(g.found):] {
		if row[g.width].sign() != 0 {
			return nil, 0, api.ErrNone
		}
	}
	x, e := attempt(func() []Rat { return g.column(g.width) })
	if e != api.OK {
		return nil, 0, e
	}
	return x, g.width - len(g.found), api.OK
}

// Kernel returns for each unknown without a pivot the solution of the equations with 0 in which it is 1 and the others of its kind are 0.
func Kernel(m [][]Rat) ([][]Rat, api.Errno) {
	if e := Check(m); e != api.OK {
		return nil, e
	}
	return attempt(func() [][]Rat {
		g := eliminated(m, nil)
		var out [][]Rat
		for _, unknown := range g.free() {
			x := g.column(unknown)
			for j := range x {
				x[j] = x[j].Neg()
			}
			x[unknown] = Of(1)
			out = append(out, x)
		}
		return out
	})
}

// Inverse returns the inverse of a square matrix, or ErrNone.
func Inverse(m [][]Rat) ([][]Rat, api.Errno) {
	if e := checkSquare(m); e != api.OK {
		return nil, e
	}
	n := len(m)
	g := eliminated(m, unit(n))
	if len(g.found) < n {
		return nil, api.ErrNone
	}
	return attempt(func() [][]Rat {
		out := make([][]Rat, n)
		for i := range out {
			for j := range n {
				out[i] = append(out[i], g.at(i, n+j))
			}
		}
		return out
	})
}

// unit is the matrix with 1 on the diagonal and 0 elsewhere.
func unit(n int) [][]Rat {
	out := make([][]Rat, n)
	for i := range out {
		out[i] = make([]Rat, n)
		out[i][i] = Of(1)
	}
	return out
}

package num

import "iter"

// grid is a matrix, with or without columns beside it, as whole numbers: each row is multiplied by its scale. Whole numbers need no reducing between the steps of the elimination, which is what takes long with fractions.
type grid struct {
	rows   [][]whole
	scales []natural
	width  int   // the columns of the matrix, in which pivots are searched
	found  []int // for each row that has a pivot, the first ones, its column
	common whole // what all pivots are in the end
	odd    bool  // whether the rows were exchanged an odd number of times
}

// newGrid makes a grid of the matrix m, with beside[i] beside its row i if beside is not empty.
func newGrid(m, beside [][]Rat) *grid {
	g := &grid{width: len(m[0]), common: wholeOf(1)}
	for i, row := range m {
		all := append([]Rat(nil), row...)
		if len(beside) > 0 {
			all = append(all, beside[i]...)
		}
		scale := commonDenominator(all)
		line := make([]whole, len(all))
		for j, r := range all {
			line[j] = r.top.times(whole{size: quotient(scale, r.denominator())})
		}
		g.rows = append(g.rows, line)
		g.scales = append(g.scales, scale)
	}
	return g
}

func commonDenominator(l []Rat) natural {
	out := naturalOf(1)
	for _, r := range l {
		more, _ := reduced(r.denominator(), out)
		out = product(out, more)
	}
	return out
}

// pivots brings an element that is not 0 to the next row, for one column after the other in which there is one, and gives its row and column. Whoever ranges over it clears the rest of the column before the next one.
func (g *grid) pivots() iter.Seq2[int, int] {
	return func(yield func(int, int) bool) {
		row := 0
	search:
		for column := range g.width {
			for i := row; i < len(g.rows); i++ {
				if g.rows[i][column].sign() == 0 {
					continue
				}
				g.exchange(row, i)
				if !yield(row, column) {
					return
				}
				row++
				continue search
			}
		}
	}
}

func (g *grid) exchange(i, j int) {
	if i != j {
		g.rows[i], g.rows[j] = g.rows[j], g.rows[i]
		g.odd = !g.odd
	}
}

// eliminate leaves in each column with a pivot nothing but the pivot, and makes all pivots the same.
func (g *grid) eliminate() {
	for row, column := range g.pivots() {
		pivot := g.rows[row][column]
		for i := range g.rows {
			if i != row {
				g.clearRow(i, row, column)
			}
		}
		g.found = append(g.found, column)
		g.common = pivot
	}
}

// clearRow makes element column of row i 0 with the pivot of row. Each element is a determinant of elements of the first matrix, so the pivot before this one divides it (Bareiss).
func (g *grid) clearRow(i, row, column int) {
	pivot, factor := g.rows[row][column], g.rows[i][column].negated()
	for j, x := range g.rows[i] {
		g.rows[i][j] = pivot.times(x).plus(factor.times(g.rows[row][j])).over(g.common)
	}
}

// at is element i, j of the matrix with pivots 1.
func (g *grid) at(i, j int) Rat {
	return small(lowest(g.rows[i][j], g.common))
}

// column is column j of the matrix with pivots 1, as a list of unknowns: those without a pivot are 0.
func (g *grid) column(j int) []Rat {
	out := make([]Rat, g.width)
	for i, unknown := range g.found {
		out[unknown] = g.at(i, j)
	}
	return out
}

// free lists the columns without a pivot.
func (g *grid) free() []int {
	var out []int
	next := 0
	for j := range g.width {
		if next < len(g.found) && g.found[next] == j {
			next++
			continue
		}
		out = append(out, j)
	}
	return out
}

// determinant is that of a square matrix.
func (g *grid) determinant() Rat {
	if len(g.found) < g.width {
		return Rat{}
	}
	scale := naturalOf(1)
	for _, s := range g.scales {
		scale = product(scale, s)
	}
	return small(lowest(g.common, whole{g.odd, scale}))
}

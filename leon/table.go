package leon

import (
	"squeegee/api"
	"squeegee/num"
)

const (
	maxFirms    = 8
	tableDigits = 6    // of a numerator or a denominator in a table
	listDigits  = 20   // in an output, a demand or wages
	groupDigits = 1000 // in what may be a group that eats itself
	maxSteps    = 20   // of Rounds and Between
)

// firms is a set of firms, as bits.
type firms uint8

func (f firms) has(i int) bool {
	return f>>i&1 == 1
}

// table is a matrix that was found to be one.
type table struct {
	needs [][]num.Rat
	uses  [maxFirms]firms // for each firm those that it uses
}

// newTable is the table of a matrix, or ErrTable.
func newTable(a [][]num.Rat) *table {
	must(isTable(a), api.ErrTable)
	t := &table{needs: a}
	for i, row := range a {
		for j, r := range row {
			if r.Sign() > 0 {
				t.uses[j] |= 1 << i
			}
		}
	}
	for through := range a {
		for i := range a {
			if t.uses[i].has(through) {
				t.uses[i] |= t.uses[through]
			}
		}
	}
	return t
}

func isTable(a [][]num.Rat) bool {
	if num.Check(a) != api.OK || len(a) != len(a[0]) {
		return false
	}
	for _, row := range a {
		if !areAmounts(row) || !areShort(row, tableDigits) {
			return false
		}
	}
	return true
}

// mustFit leaves with ErrShape or ErrArg if a list does not have a fraction, be it below 0, for each firm.
func (t *table) mustFit(list []num.Rat) {
	must(len(list) == len(t.needs), api.ErrShape)
	must(areShort(list, listDigits), api.ErrArg)
}

// mustHaveAmounts leaves with ErrShape or ErrArg if a list does not have an amount for each firm.
func (t *table) mustHaveAmounts(list []num.Rat) {
	t.mustFit(list)
	must(areAmounts(list), api.ErrArg)
}

// allUseEach reports whether all firms use each firm.
func (t *table) allUseEach() bool {
	n := len(t.needs)
	for _, f := range t.uses[:n] {
		if f != 1<<n-1 { // for 8 firms the wraparound is right
			return false
		}
	}
	return true
}

// ones is 1 of everything.
func (t *table) ones() []num.Rat {
	var out []num.Rat
	for range t.needs {
		out = append(out, num.Of(1))
	}
	return out
}

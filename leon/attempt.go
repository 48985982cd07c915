package leon

import (
	"squeegee/api"
	"squeegee/num"
)

// attempt returns what work returns, or the error with which it was left and the zero value.
func attempt[T any](work func() T) (result T, e api.Errno) {
	defer func() {
		switch left := recover().(type) {
		case nil:
		case api.Errno:
			e = left
		default: // no call panics, whatever went wrong
			e = api.ErrArg
		}
	}()
	return work(), api.OK
}

// must leaves the work that is attempted with an error, unless all is well.
func must(well bool, e api.Errno) {
	if !well {
		panic(e)
	}
}

// valid is a result, if there is no error beside it.
func valid[T any](result T, e api.Errno) T {
	must(e == api.OK, e)
	return result
}

// sum adds up any number of fractions.
func sum(parts ...num.Rat) num.Rat {
	var out num.Rat
	for _, r := range parts {
		out = valid(out.Add(r))
	}
	return out
}

func difference(a, b num.Rat) num.Rat { return valid(a.Sub(b)) }
func product(a, b num.Rat) num.Rat    { return valid(a.Mul(b)) }
func quotient(a, b num.Rat) num.Rat   { return valid(a.Quo(b)) }

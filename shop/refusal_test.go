package shop

import (
	"errors"
	"testing"

	"squeegee/api"
)

// Section Ways: an error travels with the line that caused it, and is found again by what it wraps.
func TestRefusal(t *testing.T) {
	s := New()
	for _, x := range []struct {
		line string
		want api.Errno
	}{{"order (", api.ErrRegex}, {"drop a", api.ErrNone}, {"x", api.ErrLine}, {"a\nb", api.ErrLong}} {
		_, err := s.answer(x.line)
		var why cause
		var whole refusal
		if !errors.As(err, &why) || api.Errno(why) != x.want || !errors.As(err, &whole) || whole.text != x.line || err.Error() != x.line+": "+why.Error() {
			t.Errorf("%q: %v", x.line, err)
		}
	}
	if reply, err := s.answer("order a"); reply != "ok" || err != nil {
		t.Errorf("order a: %q, %v", reply, err)
	}
}

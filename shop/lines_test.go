package shop_test

import (
	"strings"
	"testing"

	"squeegee/shop"
)

// P11.1: lines that are no lines of the tables are refused.
func TestRefusedLines(t *testing.T) {
	for _, line := range []string{
		"x", "-", "1", "0", "ok", "error 1", "Order a", "ORDER a", "orders a", "orde a", "book", "position", "fork", "help",
		" ", "  ", " #", " order a", "order a ", "order  a", "order", "order ", "order a b", "order\ta", "\torder a", "\r", "\x00", "order\x00a", "\xff", "\u00a0",
		"promise", "promise a", "promise a ", "promise a p q", "promise a p ", "promise  a p", "promise A p", "promise - p", "promise \u00e9 p", "drop", "drop a ", "drop -", "drop a b",
		"chance 0 1 0 0", "chance 0 1 0 0 0 0", "chance 0 1 0 0 ", "chance 0  1 0 0", "use 0 0", "use 0 0 ", "use 0 0 0 0", "use 0 0  0",
		"offer 0 0", "offer 0 0 1 ", "offer 0 0 1 1", "window 1,1", "window 1", "window 1 1 ", "window 1 1 1",
		"move", "move ", "move 1 ", "move  1", "move 1 1", "move +1", "move 1.0", "move 1e0", "move 0x1", "move 1_0", "move --1", "move -", "move 00", "move 01", "move -0", "move -01", "move 99999999999999999999", "move \u0661", "move x",
		"has", "has ", "has  ", "has  a", "has a ", "has a b", "states ", "states 1", "keep", "keep a", "keep a ", "keep a k", "keep a 5", "keep a KT", "keep a K ", "keep  K", "keep A K",
		"reach 0", "reach 0 0 ", "reach 0 0 0", "reach a 0", "share", "share ", "share 0 0", "share x", "firms ", "firms 1", "make ", "make 1", "deal ", "deal 1", "pay ", "pay 1", "cups ", "cups 1", "cross ", "cross 1", "home ", "home 1",
	} {
		const want = "error 110"
		s := shop.New()
		if got := s.Do(line); got != want {
			t.Errorf("%q: %q instead of %q", line, got, want)
		}
		if shown(s) != shown(shop.New()) {
			t.Errorf("%q changes the shop", line)
		}
	}
}

// P11.1: numbers are from -10^6 to 10^6; a number that is none is refused before all else.
func TestNumbers(t *testing.T) {
	talk(t, shop.New(), `
offer 0 0 1000000 => ok
offer 0 0 1000001 => error 110
offer 0 0 0 => ok
window 1000000 0 => error 90
window -1000000 0 => error 90
window -1000001 0 => error 110
window -1000000 1000001 => error 110
move -1000000 => error 1
move -1000001 => error 110
offer 9 9 x => error 110
offer 9 9 -1 => error 1
chance 9 x x x => error 110
chance 9 x x x x => error 1
reach 9 01 => error 110
share 1000000 => error 1
`)
}

// P11.1: remarks and empty lines have no reply.
func TestRemarks(t *testing.T) {
	s := shop.New()
	for _, line := range []string{"", "#", "##", "# order a", "#order a", "# ", "#  x ", "#\t", "#" + strings.Repeat("x", 511)} {
		if got := s.Do(line); got != "" {
			t.Errorf("%q: %q", line, got)
		}
	}
	if shown(s) != shown(shop.New()) {
		t.Error("remarks change the shop")
	}
}

// P11.1: lines of more than 512 bytes, and those with a line feed, are refused before anything else is seen.
func TestLongLines(t *testing.T) {
	s := shop.New()
	for _, x := range []struct{ line, want string }{
		{strings.Repeat("x", 512), "error 110"}, {strings.Repeat("x", 513), "error 2"}, {"#" + strings.Repeat("x", 512), "error 2"}, {strings.Repeat(" ", 513), "error 2"}, {strings.Repeat("x", 100000), "error 2"},
		{"order " + strings.Repeat("a", 506), "error 20"}, {"order " + strings.Repeat("a", 507), "error 2"}, {"order " + strings.Repeat("é", 254), "error 2"},
		{"use 0 0 1/" + strings.Repeat("9", 502), "error 70"}, {"use 0 0 1/" + strings.Repeat("9", 503), "error 2"},
		{"\n", "error 2"}, {"#\n", "error 2"}, {"order a\n", "error 2"}, {"\norder a", "error 2"}, {"order a\norder b", "error 2"}, {"states\n", "error 2"}, {"x\ny", "error 2"},
	} {
		if got := s.Do(x.line); got != x.want {
			t.Errorf("%.40q of %d bytes: %q instead of %q", x.line, len(x.line), got, x.want)
		}
	}
	if shown(s) != shown(shop.New()) {
		t.Error("lines that are refused change the shop")
	}
}

// P11.1, P11.2, R5: nil answers all lines in the same way, and is empty.
func TestNil(t *testing.T) {
	var s *shop.Shop
	for _, line := range []string{"", "#", "order a", "states", "x", "\n", strings.Repeat("x", 513)} {
		if got := s.Do(line); got != "error 3" {
			t.Errorf("%.40q: %q", line, got)
		}
	}
	if s.Book() != "" || len(s.Promises()) != 0 || len(s.Position()) != 0 || s.Fork() != nil {
		t.Errorf("nil: %s", shown(s))
	}
}

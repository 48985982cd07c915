package shop_test

import (
	"fmt"
	"slices"
	"strings"
	"testing"

	"squeegee/api"
	"squeegee/shop"
)

// P11.2: the book has the lines that were done, as they were written, in order; it has no questions, remarks or refused lines.
func TestBook(t *testing.T) {
	s := shop.New()
	if s.Book() != "" {
		t.Errorf("the book of a new shop: %q", s.Book())
	}
	want := ""
	for _, line := range strings.Split("order a*|states|order (|# no|promise b p|promise a q|promise a q|keep a K|drop b|drop b|promise b 0|chance 0 0 1 0 0|chance 0 0 1 0 1|use 0 0 1/2|use 0 0 -1|offer 0 0 1|offer 0 0 1|offer 0 3 1|window 1 1|window 1 1|move 1|move 1|move 0|home|x||order a*", "|") {
		if s.Do(line) == "ok" {
			want += line + "\n"
		}
		if got := s.Book(); got != want {
			t.Fatalf("after %q: %q instead of %q", line, got, want)
		}
	}
	if want != "order a*\npromise b p\npromise a q\ndrop b\npromise b 0\nchance 0 0 1 0 0\nuse 0 0 1/2\noffer 0 0 1\noffer 0 0 1\nwindow 1 1\nmove 1\nmove 0\norder a*\n" {
		t.Errorf("the book: %q", want)
	}
}

// P11.2: the names of the formulas are sorted as strings.
func TestPromises(t *testing.T) {
	s := shop.New()
	if len(s.Promises()) != 0 {
		t.Errorf("the promises of a new shop: %v", s.Promises())
	}
	for _, name := range strings.Fields("zebra b aa a ab abcdefghijkl z ba aaa c") {
		talk(t, s, "promise "+name+" p => ok")
	}
	talk(t, s, "promise q ( => error 50\npromise a p => error 5\ndrop c => ok\ndrop d => error 4")
	if got := strings.Join(s.Promises(), " "); got != "a aa aaa ab abcdefghijkl b ba z zebra" {
		t.Errorf("the promises: %s", got)
	}
	for _, name := range s.Promises() {
		talk(t, s, "drop "+name+" => ok")
	}
	if len(s.Promises()) != 0 {
		t.Errorf("the promises are all gone: %v", s.Promises())
	}
}

// P11.2: the position.
func TestPosition(t *testing.T) {
	s := shop.New()
	for _, x := range []struct{ line, want string }{{"home", "[0 1 2 3 4 5]"}, {"move 3", "[3 1 2 0 4 5]"}, {"move 3", "[3 1 2 0 4 5]"}, {"move 4", "[3 1 2 4 0 5]"}, {"move 7", "[3 1 2 4 0 5]"}, {"move 5", "[3 1 2 4 5 0]"}, {"move 2", "[3 1 0 4 5 2]"}, {"move 1", "[3 0 1 4 5 2]"}} {
		s.Do(x.line)
		if got := fmt.Sprint(s.Position()); got != x.want {
			t.Errorf("after %s: %s instead of %s", x.line, got, x.want)
		}
	}
}

// everything are lines that change each part of a shop, and what it says then.
var everything = strings.Split("order b*|promise b *p|drop a|chance 1 0 0 1 0|use 1 1 1/3|offer 1 1 9|offer 0 0 2|window 3 9|move 4|move 5", "|")

// begun is a shop to which something was said before.
func begun() *shop.Shop {
	s := shop.New()
	tell(s, strings.Split("order a*|promise a p|promise c #p|chance 0 1/2 1/2 0 0|use 0 1 1/2|offer 0 1 4|window 0 0|window 1 1|window 2 5|move 1", "|"))
	return s
}

// P11.2: a fork is in the same state; what is then done to one of both does not change the other one.
func TestFork(t *testing.T) {
	for _, line := range append(slices.Clone(everything), "states") {
		s := begun()
		was, answers := shown(s), tell(s, questions())
		f := s.Fork()
		g := f.Fork()
		if shown(f) != was || !slices.Equal(tell(f, questions()), answers) {
			t.Fatalf("the fork is %s instead of %s", shown(f), was)
		}
		if s.Do(line); shown(f) != was || !slices.Equal(tell(f, questions()), answers) {
			t.Errorf("%s of the first shop changes the fork", line)
		}
		changed := shown(s)
		if tell(f, everything); shown(s) != changed {
			t.Errorf("the fork changes the first shop")
		}
		if shown(g) != was || !slices.Equal(tell(g, questions()), answers) {
			t.Errorf("the fork of the fork is changed")
		}
	}
}

// P11.2: forks of which each goes on in its own way keep books of their own.
func TestForkedBooks(t *testing.T) {
	s := begun()
	was := s.Book()
	var forks []*shop.Shop
	for i := range 5 {
		f := s.Fork()
		forks = append(forks, f)
		talk(t, f, fmt.Sprintf("window 7 %d => ok\noffer 3 2 %d => ok", 50+i*i, i))
	}
	talk(t, s, "window 8 8 => ok")
	for i, f := range forks {
		if want := was + fmt.Sprintf("window 7 %d\noffer 3 2 %d\n", 50+i*i, i); f.Book() != want {
			t.Errorf("fork %d: %q instead of %q", i, f.Book(), want)
		}
	}
	if s.Book() != was+"window 8 8\n" {
		t.Errorf("the first shop: %q", s.Book())
	}
}

// R4: what is done to results does not change the shop.
func TestResults(t *testing.T) {
	s := begun()
	was := shown(s)
	p, q := s.Position(), s.Promises()
	for i := range p {
		p[i] = 7
	}
	for i := range q {
		q[i] = "x"
	}
	_, _ = append(p[:0], 9), append(q[:0], "y")
	if shown(s) != was {
		t.Errorf("%s became %s", was, shown(s))
	}
	talk(t, s, "home => home 1\nkeep a K => keep maybe")
}

// P11.3: the replies to the lines of a text.
func TestRun(t *testing.T) {
	for _, x := range []struct{ text, want string }{
		{"", ""}, {"\n", ""}, {"#", ""}, {"\n\n#\n\n", ""}, {"states", "states 1\n"}, {"states\n", "states 1\n"}, {"\nstates\n\n", "states 1\n"},
		{"order (ab)*\nstates", "ok\nstates 3\n"}, {"# an order\norder a*\n\nhas aa\nhas b\nx\nhas a\n", "ok\nhas yes\nhas no\nerror 110\nhas yes\n"},
		{"order a\r\nhas a\r\n\r\n", "error 20\nerror 21\nerror 110\n"}, {" \n", "error 110\n"}, {"move 1\nmove 1\nhome", "ok\nerror 4\nhome 1\n"},
		{strings.Repeat("x", 513) + "\n" + strings.Repeat("x", 512) + "\nmove 1", "error 2\nerror 110\nok\n"}, {"#" + strings.Repeat("x", 512) + "\n#\nhome", "error 2\nhome 0\n"},
	} {
		if got, e := shop.Run(x.text); got != x.want || e != api.OK {
			t.Errorf("Run of %.40q: %q, %d instead of %q", x.text, got, e, x.want)
		}
	}
}

// P11.3: the limits of texts.
func TestRunLimits(t *testing.T) {
	most := strings.Repeat("#"+strings.Repeat("x", 500)+"\n", 130)
	for _, x := range []struct {
		text, want string
		e          api.Errno
	}{
		{strings.Repeat("home\n", 2000), strings.Repeat("home 0\n", 2000), api.OK}, {strings.Repeat("home\n", 2001), "", api.ErrLong}, {strings.Repeat("\n", 2000) + "home", "home 0\n", api.OK}, {strings.Repeat("\n", 2000) + "home\n", "", api.ErrLong}, {strings.Repeat("\n", 2001), "", api.ErrLong}, {strings.Repeat("\n", 70000), "", api.ErrLong},
		{most + strings.Repeat("\n", 65536-len(most)-4) + "home", "home 0\n", api.OK}, {most + strings.Repeat("\n", 65537-len(most)-4) + "home", "", api.ErrLong},
		{strings.Repeat("x", 65536), "error 2\n", api.OK}, {strings.Repeat("x", 65537), "", api.ErrLong}, {strings.Repeat("é", 32769), "", api.ErrLong},
	} {
		if got, e := shop.Run(x.text); got != x.want || e != x.e {
			t.Errorf("Run of %d bytes, %.20q: %.40q, %d", len(x.text), x.text, got, e)
		}
	}
}

// P11.3: Run says what a shop says to one line after the other, and each time anew.
func TestRunIsDo(t *testing.T) {
	lines := append(slices.Concat(questions(), everything, questions()), "", "#", "x y")
	want := ""
	for _, reply := range tell(shop.New(), lines) {
		if reply != "" {
			want += reply + "\n"
		}
	}
	for range 2 {
		if got, e := shop.Run(strings.Join(lines, "\n")); got != want || e != api.OK {
			t.Errorf("Run: %q, %d instead of %q", got, e, want)
		}
	}
}

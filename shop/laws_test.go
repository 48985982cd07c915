package shop_test

import (
	"fmt"
	"math/rand"
	"slices"
	"strings"
	"testing"

	"squeegee/shop"
)

// P11.1, P11.2: lines of any kind get the replies that a shop gives that is kept in another way, and lead to the same state.
func TestAnyLines(t *testing.T) {
	random := rand.New(rand.NewSource(1))
	replies := map[string]int{}
	for range 150 {
		s, m := shop.New(), newModel()
		for i := range 200 {
			line := someLine(random)
			got, want := s.Do(line), m.do(line)
			if got != want {
				t.Fatalf("%s%q: %q instead of %q", s.Book(), line, got, want)
			}
			kind, _, _ := strings.Cut(got, " ")
			if kind == "error" {
				kind = got
			}
			replies[kind]++
			if i%40 == 0 {
				list := slices.Clone(m.names)
				slices.Sort(list)
				if b, p := s.Book(), s.Position(); b != m.book || !slices.Equal(p, m.position[:]) || !slices.Equal(s.Promises(), list) {
					t.Fatalf("%s instead of %q, %v, %v", shown(s), m.book, m.position, list)
				}
			}
		}
	}
	for _, kind := range []string{"", "ok", "has", "states", "keep", "reach", "share", "firms", "make", "deal", "pay", "cups", "cross", "home", "error 1", "error 4", "error 5", "error 10", "error 20", "error 50", "error 60", "error 61", "error 70", "error 90", "error 110"} {
		if replies[kind] < 20 {
			t.Errorf("the reply %q comes only %d times", kind, replies[kind])
		}
	}
}

// P11.4: a new shop that is given the lines of the book gives the same replies to all later lines, and has the same book.
func TestBookIsShop(t *testing.T) {
	random := rand.New(rand.NewSource(2))
	for range 60 {
		s := shop.New()
		tell(s, someScript(random, random.Intn(200)))
		again := shop.New()
		for _, line := range strings.Split(strings.TrimSuffix(s.Book(), "\n"), "\n") {
			if reply := again.Do(line); reply != "ok" && s.Book() != "" {
				t.Fatalf("of the book\n%s%q has the reply %q", s.Book(), line, reply)
			}
		}
		if shown(again) != shown(s) {
			t.Fatalf("%s instead of %s", shown(again), shown(s))
		}
		later := slices.Concat(questions(), someScript(random, 50), questions())
		if !slices.Equal(tell(again, later), tell(s, later)) || shown(again) != shown(s) {
			t.Fatalf("after\n%sthe replies are others", s.Book())
		}
	}
}

// P11.5: without the questions and the refused lines all other replies are the same.
func TestOnlyChanges(t *testing.T) {
	random := rand.New(rand.NewSource(3))
	refused := 0
	for range 60 {
		lines := someScript(random, 150)
		s, short := shop.New(), shop.New()
		for i, line := range lines {
			was := shown(s)
			reply := s.Do(line)
			if reply == "ok" {
				if again := short.Do(line); again != reply {
					t.Fatalf("%q: %q without the lines before it that change nothing", line, again)
				}
			} else if shown(s) != was {
				t.Fatalf("%q: %q, but %s becomes %s", line, reply, was, shown(s))
			} else if strings.HasPrefix(reply, "error") {
				refused++
			}
			if i%30 == 29 {
				f := short.Fork()
				if !slices.Equal(tell(s.Fork(), questions()), tell(f, questions())) {
					t.Fatalf("after %v the replies are others", lines[:i+1])
				}
			}
		}
		if shown(s) != shown(short) {
			t.Fatalf("%s instead of %s", shown(short), shown(s))
		}
	}
	if refused < 500 {
		t.Errorf("only %d lines are refused", refused)
	}
}

// P11.5: no line that chapters 1 to 10 refuse late leaves a trace: each is refused, and all questions are answered as before.
func TestRefusedChanges(t *testing.T) {
	s := begun()
	was, answers := shown(s), tell(s, questions())
	for _, line := range strings.Split("order a(|promise a q|promise z (|drop z|chance 0 1/2 1/2 1/2 0|chance 0 1/2 x 0 1/2|chance 1 0 1 0 01|chance 4 1 0 0 0|use 0 1 -1|use 0 1 2/4|use 2 2 1000000|offer 0 1 -1|offer 0 1 1000001|window 0 0|window 1001 5|move 1|move 3|move 6|window 5|x", "|") {
		if reply := s.Do(line); !strings.HasPrefix(reply, "error ") {
			t.Errorf("%q: %q", line, reply)
		}
		if shown(s) != was || !slices.Equal(tell(s, questions()), answers) {
			t.Errorf("%q changes the shop", line)
		}
	}
}

// P11.6: home is even just if the hole is at one of the places 0, 2, 4, whatever was moved.
func TestHomeParity(t *testing.T) {
	random := rand.New(rand.NewSource(4))
	s := shop.New()
	seen := map[string]bool{}
	for range 4000 {
		if s.Do(fmt.Sprint("move ", random.Intn(6))) != "ok" {
			continue
		}
		p := s.Position()
		n := integer(strings.TrimPrefix(s.Do("home"), "home "))
		if even := slices.Index(p, 0)%2 == 0; even != (n%2 == 0) || n != ways[[6]int(p)] {
			t.Fatalf("home of %v: %d", p, n)
		}
		seen[fmt.Sprint(p)] = true
	}
	if len(seen) < 100 {
		t.Errorf("only %d positions were there", len(seen))
	}
}

// P11.6: no payment is above what is offered for the item that is dealt; and who gets none pays nothing.
func TestPayments(t *testing.T) {
	random := rand.New(rand.NewSource(5))
	paid := 0
	for range 1500 {
		s, m := shop.New(), newModel()
		high := []int{3, 10, 1000001}[random.Intn(3)]
		for range random.Intn(20) {
			line := fmt.Sprint("offer ", random.Intn(4), " ", random.Intn(3), " ", random.Intn(high))
			if s.Do(line) != "ok" || m.do(line) != "ok" {
				t.Fatalf("%s is refused", line)
			}
		}
		deal, pay := m.dealt()
		if s.Do("deal") != deal || s.Do("pay") != pay {
			t.Fatalf("after\n%s%s, %s instead of %s, %s", s.Book(), s.Do("deal"), s.Do("pay"), deal, pay)
		}
		items, payments := strings.Fields(s.Do("deal"))[1:], strings.Fields(s.Do("pay"))[1:]
		for i, item := range items {
			n := int64(integer(payments[i]))
			if n < 0 || n > m.offered(i, item) {
				t.Fatalf("after\n%s%s, %s", s.Book(), deal, pay)
			}
			if n > 0 {
				paid++
			}
		}
	}
	if paid < 500 {
		t.Errorf("only %d bidders pay", paid)
	}
}

// P1, R7: no line makes a call panic, and the same lines have the same replies.
func TestAnyText(t *testing.T) {
	random := rand.New(rand.NewSource(6))
	for range 80 {
		var text []byte
		for range random.Intn(2000) {
			switch random.Intn(12) {
			case 0:
				text = append(text, byte(random.Intn(256)))
			case 1:
				text = append(text, '\n')
			case 2, 3:
				text = append(text, " -0123456789/()|&!#*>abcpqrKT4S"[random.Intn(31)])
			default:
				text = append(text, someLine(random)+"\n"...)
			}
			if len(text) > 20000 {
				break
			}
		}
		got, e := shop.Run(string(text))
		if again, f := shop.Run(string(text)); again != got || f != e {
			t.Fatalf("Run of %q: %q, %d and %q, %d", text, got, e, again, f)
		}
		s := shop.New()
		tell(s, strings.Split(string(text), "\n"))
		f := s.Fork()
		if shown(f) != shown(s) || !slices.Equal(tell(f, questions()), tell(s, questions())) {
			t.Fatalf("after %q the fork is another shop", text)
		}
	}
}

package shop_test

import (
	"fmt"
	"math/rand"
	"regexp"
	"strconv"
	"strings"
	"testing"

	"squeegee/api"
	"squeegee/bid"
	"squeegee/cups"
	"squeegee/leon"
	"squeegee/modal"
	"squeegee/num"
	"squeegee/regex"
	"squeegee/shop"
	"squeegee/walk"
)

// talk gives a shop lines, each with the reply that it should have behind a =>.
func talk(t *testing.T, s *shop.Shop, script string) {
	t.Helper()
	for _, l := range strings.Split(strings.Trim(script, "\n"), "\n") {
		line, want, _ := strings.Cut(l, " =>")
		want = strings.TrimPrefix(want, " ")
		if got := s.Do(line); got != want {
			t.Errorf("%q: %q instead of %q", line, got, want)
		}
	}
}

// tell gives a shop lines, and returns the replies.
func tell(s *shop.Shop, lines []string) []string {
	var out []string
	for _, line := range lines {
		out = append(out, s.Do(line))
	}
	return out
}

// shown is all that can be seen of a shop without a line.
func shown(s *shop.Shop) string {
	return fmt.Sprintf("%q %q %v", s.Book(), s.Promises(), s.Position())
}

// questions are lines that ask for all that a shop knows.
func questions() []string {
	return append(plainQuestions(), keeps()...)
}

// plainQuestions ask for all but the formulas.
func plainQuestions() []string {
	out := []string{"states", "firms", "make", "deal", "pay", "cups", "cross", "home"}
	for _, w := range strings.Fields("- a b c ab aa abab ccc") {
		out = append(out, "has "+w)
	}
	for i := range 4 {
		out = append(out, fmt.Sprint("share ", i))
		for j := range 4 {
			out = append(out, fmt.Sprint("reach ", i, " ", j))
		}
	}
	return out
}

// keeps ask for the formulas.
func keeps() []string {
	var out []string
	for _, name := range names {
		for _, class := range "KT4S" {
			out = append(out, "keep "+name+" "+string(class))
		}
	}
	return out
}

var names = strings.Fields("a b c d zebra abcdefghijkl x xy xyz q r s t u v w aa ab ac ad ae af ag ah")

var (
	aNumber = regexp.MustCompile(`\A(0|-?[1-9][0-9]*)\z`)
	aName   = regexp.MustCompile(`\A[a-z]{1,12}\z`)
)

// model is a shop that is kept in another way: by a list of what each line made of it.
type model struct {
	expression string
	names      []string
	formulas   []string
	chain      [4][4]string
	used       [3][3]string
	offers     [4][3]int64
	points     [][2]int
	position   [6]int
	book       string
}

// newModel is a new shop.
func newModel() *model {
	m := &model{expression: "0", position: [6]int{0, 1, 2, 3, 4, 5}}
	for i := range 4 {
		m.chain[i] = [4]string{"0", "0", "0", "0"}
		m.chain[i][i] = "1"
	}
	for i := range 3 {
		m.used[i] = [3]string{"0", "0", "0"}
	}
	return m
}

// code is the reply to a line that is refused.
func code(e api.Errno) string {
	return fmt.Sprint("error ", int(e))
}

// fits reports whether words after the first one are as a pattern says: i a number, n a name, k a class, w any word.
func fits(pattern string, words []string) bool {
	if len(words) != len(pattern) {
		return false
	}
	for i, w := range words {
		switch pattern[i] {
		case 'i':
			n, err := strconv.ParseInt(w, 10, 64)
			if !aNumber.MatchString(w) || err != nil || n < -1000000 || n > 1000000 {
				return false
			}
		case 'n':
			if !aName.MatchString(w) {
				return false
			}
		case 'k':
			if len(w) != 1 || !strings.Contains("KT4S", w) {
				return false
			}
		case 'w':
			if w == "" {
				return false
			}
		}
	}
	return true
}

var (
	changePatterns   = map[string]string{"order": "w", "promise": "nw", "drop": "n", "chance": "iwwww", "use": "iiw", "offer": "iii", "window": "ii", "move": "i"}
	questionPatterns = map[string]string{"has": "w", "states": "", "keep": "nk", "reach": "ii", "share": "i", "firms": "", "make": "", "deal": "", "pay": "", "cups": "", "cross": "", "home": ""}
)

// do does a line.
func (m *model) do(line string) string {
	if len(line) > 512 || strings.Contains(line, "\n") {
		return "error 2"
	}
	if line == "" || line[0] == '#' {
		return ""
	}
	words := strings.Split(line, " ")
	if p, known := changePatterns[words[0]]; known && fits(p, words[1:]) {
		if e := m.change(words[0], words[1:]); e != api.OK {
			return code(e)
		}
		m.book += line + "\n"
		return "ok"
	}
	if p, known := questionPatterns[words[0]]; known && fits(p, words[1:]) {
		return m.ask(words[0], words[1:])
	}
	return "error 110"
}

// at is the index of a formula, or -1.
func (m *model) at(name string) int {
	for i, x := range m.names {
		if x == name {
			return i
		}
	}
	return -1
}

// integer reads a number.
func integer(word string) int {
	n, err := strconv.Atoi(word)
	if err != nil {
		panic(err)
	}
	return n
}

// outside reports whether a number is not from 0 to one less than n.
func outside(word string, n int) bool {
	return integer(word) < 0 || integer(word) >= n
}

// parsed are the rows of a matrix of words that are fractions.
func parsed[R any](rows []R, words func(*R) []string) [][]num.Rat {
	var out [][]num.Rat
	for i := range rows {
		var row []num.Rat
		for _, w := range words(&rows[i]) {
			r, e := num.Parse(w)
			if e != api.OK {
				panic(w)
			}
			row = append(row, r)
		}
		out = append(out, row)
	}
	return out
}

// chainOf and tableOf are matrices for the layers below.
func chainOf(c [4][4]string) [][]num.Rat {
	return parsed(c[:], func(row *[4]string) []string { return row[:] })
}

func tableOf(c [3][3]string) [][]num.Rat {
	return parsed(c[:], func(row *[3]string) []string { return row[:] })
}

// change does a line of the first table.
func (m *model) change(first string, w []string) api.Errno {
	switch first {
	case "order":
		e := regex.Check(w[0])
		if e == api.OK {
			m.expression = w[0]
		}
		return e
	case "promise":
		if m.at(w[0]) >= 0 {
			return api.ErrState
		}
		if len(m.names) == 20 {
			return api.ErrFull
		}
		if e := modal.Check(w[1]); e != api.OK {
			return e
		}
		m.names, m.formulas = append(m.names, w[0]), append(m.formulas, w[1])
	case "drop":
		i := m.at(w[0])
		if i < 0 {
			return api.ErrNone
		}
		m.names = append(m.names[:i:i], m.names[i+1:]...)
		m.formulas = append(m.formulas[:i:i], m.formulas[i+1:]...)
	case "chance":
		return m.chance(w)
	case "use":
		return m.use(w)
	case "offer":
		if outside(w[0], 4) || outside(w[1], 3) || integer(w[2]) < 0 {
			return api.ErrArg
		}
		m.offers[integer(w[0])][integer(w[1])] = int64(integer(w[2]))
	case "window":
		return m.window(integer(w[0]), integer(w[1]))
	case "move":
		return m.move(integer(w[0]))
	}
	return api.OK
}

func (m *model) chance(w []string) api.Errno {
	if outside(w[0], 4) {
		return api.ErrArg
	}
	for _, f := range w[1:] {
		if _, e := num.Parse(f); e != api.OK {
			return e
		}
	}
	then := m.chain
	then[integer(w[0])] = [4]string(w[1:])
	if walk.Check(chainOf(then)) != api.OK {
		return api.ErrChain
	}
	m.chain = then
	return api.OK
}

func (m *model) use(w []string) api.Errno {
	if outside(w[0], 3) || outside(w[1], 3) {
		return api.ErrArg
	}
	if _, e := num.Parse(w[2]); e != api.OK {
		return e
	}
	then := m.used
	then[integer(w[0])][integer(w[1])] = w[2]
	if leon.Check(tableOf(then)) != api.OK {
		return api.ErrTable
	}
	m.used = then
	return api.OK
}

func (m *model) window(x, y int) api.Errno {
	if len(m.points) == 14 {
		return api.ErrArg
	}
	if x < -1000 || x > 1000 || y < -1000 || y > 1000 {
		return api.ErrPoint
	}
	for _, p := range m.points {
		if p == [2]int{x, y} {
			return api.ErrPoint
		}
	}
	m.points = append(m.points, [2]int{x, y})
	return api.OK
}

// ropes are the places to which the hole can move.
var ropes = [6]string{"13", "024", "15", "04", "135", "24"}

// hole is where the hole of a position is.
func hole(p [6]int) int {
	for i, n := range p {
		if n == 0 {
			return i
		}
	}
	panic("no hole")
}

// moved is a position with the hole moved.
func moved(p [6]int, to int) [6]int {
	at := hole(p)
	p[at], p[to] = p[to], 0
	return p
}

func (m *model) move(to int) api.Errno {
	if to < 0 || to > 5 {
		return api.ErrArg
	}
	if !strings.Contains(ropes[hole(m.position)], strconv.Itoa(to)) {
		return api.ErrNone
	}
	m.position = moved(m.position, to)
	return api.OK
}

// ways are the fewest moves from each position to the one of a new shop.
var ways = func() map[[6]int]int {
	start := [6]int{0, 1, 2, 3, 4, 5}
	out := map[[6]int]int{start: 0}
	for list := [][6]int{start}; len(list) > 0; list = list[1:] {
		for _, to := range ropes[hole(list[0])] {
			then := moved(list[0], int(to-'0'))
			if _, known := out[then]; !known {
				out[then] = out[list[0]] + 1
				list = append(list, then)
			}
		}
	}
	return out
}()

// said is a reply, or what stands for an error.
func said(e api.Errno, words ...any) string {
	if e != api.OK {
		return code(e)
	}
	return strings.TrimSuffix(fmt.Sprintln(words...), "\n")
}

// yes writes whether something is so.
func yes(is bool) string {
	return map[bool]string{true: "yes", false: "no"}[is]
}

// listed puts a word before the words of a list.
func listed[T any](first string, list []T) []any {
	out := []any{first}
	for _, x := range list {
		out = append(out, x)
	}
	return out
}

// ask answers a line of the second table.
func (m *model) ask(first string, w []string) string {
	switch first {
	case "has":
		if w[0] == "-" {
			w = []string{""}
		}
		is, e := regex.Has(m.expression, w[0])
		return said(e, "has", yes(is))
	case "states":
		ends, _, e := regex.States(m.expression)
		return said(e, "states", len(ends))
	case "keep":
		return m.keep(w[0], w[1][0])
	case "reach":
		if outside(w[0], 4) || outside(w[1], 4) {
			return "error 1"
		}
		chances, e := walk.Reach(chainOf(m.chain), []int{1, 2, 4, 8}[integer(w[1])])
		return said(e, "reach", chances[integer(w[0])])
	case "share":
		if outside(w[0], 4) {
			return "error 1"
		}
		shares, e := walk.Shares(chainOf(m.chain), integer(w[0]))
		return said(e, listed("share", shares)...)
	case "firms":
		_, eats, e := leon.Eats(tableOf(m.used))
		return said(e, "firms", yes(!eats))
	case "make":
		one := num.Of(1)
		made, e := leon.Outputs(tableOf(m.used), []num.Rat{one, one, one})
		return said(e, listed("make", made)...)
	case "deal", "pay":
		deal, pay := m.dealt()
		return map[string]string{"deal": deal, "pay": pay}[first]
	case "cups":
		cup, e := cups.Cup(m.points)
		bow, _ := cups.Cap(m.points)
		return said(e, "cups", len(cup), len(bow))
	case "cross":
		squares, e := cups.Squares(m.points)
		return said(e, "cross", squares)
	}
	return said(api.OK, "home", ways[m.position])
}

func (m *model) keep(name string, class byte) string {
	i := m.at(name)
	if i < 0 {
		return "error 4"
	}
	valid, _ := modal.Valid(m.formulas[i], class)
	_, can, _ := modal.Satisfy(m.formulas[i], class)
	switch {
	case valid && can:
		return "keep valid"
	case can:
		return "keep maybe"
	}
	return "keep never"
}

// best is the least list of items, -1 for none, with the greatest worth, if one bidder is left out; bundles are compared as numbers.
func (m *model) best(without int) (int64, [4]int) {
	most, who := int64(-1), [4]int{}
	bundle := func(item int) int { return (1 << (item + 1)) / 2 }
	var try func(i int, l [4]int, worth int64)
	try = func(i int, l [4]int, worth int64) {
		if i == 4 {
			less := false
			for j := 3; j >= 0; j-- {
				if bundle(l[j]) != bundle(who[j]) {
					less = bundle(l[j]) < bundle(who[j])
				}
			}
			if worth > most || worth == most && less {
				most, who = worth, l
			}
			return
		}
		for item := -1; item < 3; item++ {
			free := true
			for _, x := range l[:i] {
				free = free && (item < 0 || x != item)
			}
			if !free || i == without && item >= 0 {
				continue
			}
			l[i] = item
			gets := int64(0)
			if item >= 0 {
				gets = m.offers[i][item]
			}
			try(i+1, l, worth+gets)
		}
	}
	try(0, [4]int{}, 0)
	return most, who
}

// dealt are the replies to deal and pay, by trying all lists of items.
func (m *model) dealt() (string, string) {
	all, items := m.best(-1)
	deal, pay := "deal", "pay"
	for i, item := range items {
		gets := int64(0)
		if item < 0 {
			deal += " -"
		} else {
			deal += fmt.Sprint(" ", item)
			gets = m.offers[i][item]
		}
		without, _ := m.best(i)
		pay += fmt.Sprint(" ", without-(all-gets))
	}
	return deal, pay
}

// offered is what a bidder offers in the single bids for an item of the reply to deal.
func (m *model) offered(bidder int, item string) int64 {
	if item == "-" {
		return 0
	}
	var offers [][]int64
	for _, list := range m.offers {
		offers = append(offers, list[:])
	}
	bids, _ := bid.Single(3, offers)
	return bids[bidder][1<<integer(item)]
}

// pick is one of some words.
func pick(random *rand.Rand, words string) string {
	l := strings.Split(words, " ")
	return l[random.Intn(len(l))]
}

// someRow is four fractions, which mostly have the sum 1.
func someRow(random *rand.Rand) string {
	if random.Intn(8) == 0 {
		return pick(random, "1/2 1/3 0 1 2/4 x") + " " + pick(random, "1/2 0 -1 2") + " 0 " + pick(random, "0 1/2 1/6 01")
	}
	parts, sum := [4]int64{}, int64(0)
	for sum == 0 {
		for i := range parts {
			parts[i] = max(0, random.Int63n(7)-3)
			sum += parts[i]
		}
	}
	var out []string
	for _, n := range parts {
		r, _ := num.Make(n, sum)
		out = append(out, r.String())
	}
	return strings.Join(out, " ")
}

// someLine is a line, mostly one that is not refused.
func someLine(random *rand.Rand) string {
	i := func() string { return pick(random, "0 1 2 3 0 1 2 3 0 1 2 3 0 1 2 3 4 5 -1 6") }
	name := names[random.Intn(len(names))]
	switch random.Intn(24) {
	case 0, 1:
		return "order " + pick(random, "(ab)* a*b* (a|b)* !(a|b)*c 0 1 a&b !0 (a*b*)* ( |a a** !(!(abc)&!(b*a)) aaaa*(b|c) d")
	case 2, 3, 4:
		return "promise " + name + " " + pick(random, "(#p>p) p !p (p|!p) (p&!p) (#p>##p) (*p&#0) (p&#!p) *p (p #(p>q) (#(p>q)>(#p>#q)) s")
	case 5:
		return "drop " + name
	case 6, 7:
		return "chance " + pick(random, "0 1 2 3 0 1 2 3 4") + " " + someRow(random)
	case 8, 9:
		return "use " + pick(random, "0 1 2 0 1 2 3") + " " + pick(random, "0 1 2 0 1 2 -1") + " " + pick(random, "0 1/2 1/3 1/4 1/5 1/9 2 1 -1/2 0/3 2/7 3/2")
	case 10, 11, 12:
		return "offer " + i() + " " + pick(random, "0 1 2 0 1 2 3") + " " + fmt.Sprint(random.Intn(12)-1)
	case 13, 14:
		if random.Intn(8) == 0 {
			return "window " + pick(random, "0 1 1001 -1001") + " " + pick(random, "0 -1001 1001 1000")
		}
		return "window " + fmt.Sprint(random.Intn(40)-20, " ", random.Intn(40)*random.Intn(27))
	case 15, 16, 17, 18, 19:
		return "move " + pick(random, "0 1 2 3 4 5")
	case 20:
		return pick(random, "# #a ##  x") + pick(random, "order 1  -")
	case 21:
		line := pick(random, "order promise drop chance use offer window move has states keep reach share firms make deal pay cups cross home Order h")
		for range random.Intn(4) {
			line += " " + pick(random, "a K 0 1 -1 01 +1 -0 1000001 - b (  1/2")
		}
		return line
	}
	q := plainQuestions()
	if random.Intn(4) == 0 {
		q = keeps()
	}
	return q[random.Intn(len(q))]
}

// someScript is lines.
func someScript(random *rand.Rand, n int) []string {
	var out []string
	for range n {
		out = append(out, someLine(random))
	}
	return out
}

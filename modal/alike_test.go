package modal_test

import (
	"math/rand"
	"testing"

	"squeegee/api"
	"squeegee/modal"
)

// worldOf is a world with its model.
type worldOf struct {
	m *modal.Model
	w int
}

func (x worldOf) seen() []worldOf {
	var out []worldOf
	for _, v := range x.m.Sees[x.w] {
		out = append(out, worldOf{x.m, v})
	}
	return out
}

// pairOf is two worlds and a depth.
type pairOf struct {
	x, y  worldOf
	depth int
}

// teller finds formulas that tell worlds apart.
type teller struct {
	known map[pairOf]*tree
}

// tell returns a formula of at most that depth that is true at x and not at y, or nil if there is none.
func (l *teller) tell(x, y worldOf, depth int) *tree {
	key := pairOf{x, y, depth}
	out, found := l.known[key]
	if !found {
		out = l.find(x, y, depth)
		l.known[key] = out
	}
	return out
}

func (l *teller) find(x, y worldOf, depth int) *tree {
	for _, a := range "pqr" {
		f := tree{sign: byte(a)}
		if holds(*x.m, x.w, f) != holds(*y.m, y.w, f) {
			if holds(*y.m, y.w, f) {
				f = negated(f)
			}
			return &f
		}
	}
	if depth == 0 {
		return nil
	}
	// what x sees and y does not is told apart from all that y sees
	for _, v := range x.seen() {
		if f := l.unlike(v, y.seen(), depth-1); f != nil {
			return &tree{'*', []tree{*f}}
		}
	}
	for _, v := range y.seen() {
		if f := l.unlike(v, x.seen(), depth-1); f != nil {
			return &tree{'#', []tree{negated(*f)}}
		}
	}
	return nil
}

// unlike returns a formula that is true at x and at none of some worlds, or nil.
func (l *teller) unlike(x worldOf, others []worldOf, depth int) *tree {
	out := negated(tree{sign: '0'})
	for _, y := range others {
		f := l.tell(x, y, depth)
		if f == nil {
			return nil
		}
		out = tree{'&', []tree{out, *f}}
	}
	return &out
}

// checkAlike checks what Alike says with formulas that tell worlds apart, of depths at most the number of all worlds.
func checkAlike(t *testing.T, m, n modal.Model, v, w int) (int, bool) {
	t.Helper()
	depth, is, e := modal.Alike(m, n, v, w)
	if e != api.OK {
		t.Fatalf("Alike of %v, %v, %d, %d: %d", m, n, v, w, e)
	}
	l := &teller{known: map[pairOf]*tree{}}
	x, y := worldOf{&m, v}, worldOf{&n, w}
	for d := range len(m.Sees) + len(n.Sees) + 1 {
		f := l.tell(x, y, d)
		if f == nil {
			continue
		}
		if is || depth != d || f.depth() != d || !holds(m, v, *f) || holds(n, w, *f) {
			t.Fatalf("Alike of %v, %v, %d, %d: %d, %v, but %v", m, n, v, w, depth, is, f)
		}
		return depth, is
	}
	if !is || depth != 0 {
		t.Fatalf("Alike of %v, %v, %d, %d: %d, %v", m, n, v, w, depth, is)
	}
	return depth, is
}

// P5.5: worlds that are alike, and worlds that are not, with the least depth.
func TestAlike(t *testing.T) {
	for _, x := range []struct {
		m, n  string
		v, w  int
		depth int
		is    bool
	}{
		{"p:", "p:", 0, 0, 0, true}, {"p:", "q:", 0, 0, 0, false}, {"p:", ":", 0, 0, 0, false}, {"p:", "p:0", 0, 0, 1, false}, {"p:0", "p:1 p:0", 0, 0, 0, true}, {"p:0", "p:1 p:2 p:0", 0, 1, 0, true},
		{":1 p:", ":1 q:", 0, 0, 1, false}, {":1 p:", ":12 p: p:", 0, 0, 0, true}, {":1 p:", ":12 p: q:", 0, 0, 1, false}, {":1 :2 :", ":1 :", 0, 0, 2, false}, {":1 :2 :3 :", ":1 :2 :3 :4 :", 0, 0, 4, false}, {":1 :2 :3 :", ":1 :2 :3 :4 :", 0, 1, 0, true},
		{":12 :3 :4 p: q:", ":1 :23 p: q:", 0, 0, 2, false}, {":12 :3 :4 p: q:", ":12 :4 :3 p: q:", 0, 0, 0, true}, {":01 :", ":1 :01", 0, 0, 2, false}, {":1 :0", ":0", 1, 0, 0, true}, {"p:1 q:0", "q:1 p:0", 0, 1, 0, true}, {"p:1 q:0", "q:1 p:0", 0, 0, 0, false},
		// two worlds of one model; worlds that are alike, whatever else there is
		{":1 :2 :", ":1 :2 :", 0, 2, 1, false}, {":1 :2 :", ":1 :2 :", 0, 1, 2, false}, {":1 : p:", ":1 : q:0", 0, 0, 0, true},
	} {
		m, n := model(x.m), model(x.n)
		depth, is := checkAlike(t, m, n, x.v, x.w)
		back, again := checkAlike(t, n, m, x.w, x.v)
		if depth != x.depth || is != x.is || back != depth || again != is {
			t.Errorf("Alike of %s, %s, %d, %d: %d, %v and %d, %v", x.m, x.n, x.v, x.w, depth, is, back, again)
		}
	}
}

// P5.5: any models.
func TestSomeAlike(t *testing.T) {
	random := rand.New(rand.NewSource(77))
	alike, depths := 0, map[int]int{}
	for range 4000 {
		atoms := []string{"", "p", "pqr"}[random.Intn(3)]
		m := someModel(random, 1+random.Intn(6), random.Intn(60), atoms)
		n := someModel(random, 1+random.Intn(6), random.Intn(60), atoms)
		if random.Intn(2) == 0 {
			n = m
		}
		depth, is := checkAlike(t, m, n, random.Intn(len(m.Sees)), random.Intn(len(n.Sees)))
		if is {
			alike++
		} else {
			depths[depth]++
		}
	}
	if alike < 300 || depths[0] < 300 || depths[1] < 300 || depths[2] < 50 || depths[3] < 10 {
		t.Error(alike, depths)
	}
}

// line is a model in which each world sees the one before it, or all that are.
func line(worlds int, all bool) modal.Model {
	m := lonely(worlds)
	for w := range m.Sees {
		for v := range w {
			if all || v == w-1 {
				m.Sees[w] = append(m.Sees[w], v)
			}
		}
	}
	return m
}

// P5.5: as many worlds as there may be, and differences as deep as there can be.
func TestLongLines(t *testing.T) {
	steps, all := line(1000, false), line(1000, true)
	ring := line(1000, false)
	ring.Sees[0] = []int{999}
	for _, x := range []struct {
		m, n  modal.Model
		v, w  int
		depth int
		is    bool
	}{
		{steps, steps, 999, 999, 0, true}, {steps, steps, 999, 998, 999, false}, {all, all, 999, 999, 0, true}, {all, all, 998, 999, 999, false}, {all, all, 0, 999, 1, false}, {steps, all, 1, 1, 0, true}, {steps, all, 999, 999, 2, false}, {steps, ring, 999, 5, 1000, false}, {ring, model(":0"), 17, 0, 0, true}, {ring, ring, 3, 4, 0, true},
	} {
		depth, is, e := modal.Alike(x.m, x.n, x.v, x.w)
		if depth != x.depth || is != x.is || e != api.OK {
			t.Errorf("Alike of %d, %d: %d, %v, %d", x.v, x.w, depth, is, e)
		}
	}
}

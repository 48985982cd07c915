package walk_test

import (
	"fmt"
	"math"
	"math/big"
	"math/rand"
	"strings"
	"testing"

	"squeegee/api"
	"squeegee/num"
	"squeegee/walk"
)

// checkRuin checks what Ruin says of all amounts: the first and the last are known, and each other one comes from those beside it. There is just one such list.
func checkRuin(t *testing.T, p num.Rat, to int) {
	t.Helper()
	var chances, games []*big.Rat
	for from := range to + 1 {
		c, g, e := walk.Ruin(p, from, to)
		if e != api.OK {
			t.Fatalf("Ruin(%s, %d, %d): %d", p, from, to, e)
		}
		chances, games = append(chances, exact(c)), append(games, exact(g))
	}
	win := exact(p)
	lose := minus(whole(1), win)
	for from := range to + 1 {
		chance, number := whole(0), whole(0)
		switch from {
		case 0:
		case to:
			chance = whole(1)
		default:
			chance = plus(times(win, chances[from+1]), times(lose, chances[from-1]))
			number = plus(whole(1), plus(times(win, games[from+1]), times(lose, games[from-1])))
		}
		if chances[from].Cmp(chance) != 0 || games[from].Cmp(number) != 0 {
			t.Fatalf("Ruin(%s, %d, %d): %s, %s", p, from, to, chances[from], games[from])
		}
	}
}

// P6.6: Ruin.
func TestRuin(t *testing.T) {
	for _, x := range []struct {
		p        string
		from, to int
		want     string
	}{
		{"1/2", 3, 10, "3/10 21"}, {"1/3", 1, 2, "1/3 1"}, {"1/2", 0, 1, "0 0"}, {"1/2", 1, 1, "1 0"}, {"1/7", 0, 30, "0 0"}, {"1/7", 30, 30, "1 0"}, {"2/3", 1, 2, "2/3 1"}, {"2/3", 1, 3, "4/7 15/7"}, {"1/3", 2, 3, "3/7 15/7"}, {"1/2", 15, 30, "1/2 225"}, {"1/999999", 1, 2, "1/999999 1"}, {"999998/999999", 1, 2, "999998/999999 1"},
	} {
		c, g, e := walk.Ruin(read(x.p), x.from, x.to)
		if got := show([]num.Rat{c, g}); got != x.want || e != api.OK {
			t.Errorf("Ruin(%s, %d, %d): %s, %d", x.p, x.from, x.to, got, e)
		}
	}
	for to := 1; to <= 30; to++ {
		for _, p := range []string{"1/2", "1/3", "2/3", "99/100", "1/999999", "999998/999999", "499999/999999"} {
			checkRuin(t, read(p), to)
		}
	}
	random := rand.New(rand.NewSource(102))
	for range 100 {
		low := 2 + random.Int63n(999998)
		p, _ := num.Make(1+random.Int63n(low-1), low)
		checkRuin(t, p, 1+random.Intn(30))
	}
}

// P6.6: the errors of Ruin.
func TestRuinErrors(t *testing.T) {
	nines := strings.Repeat("9", api.MaxDigits)
	for _, x := range []struct {
		p        string
		from, to int
	}{
		{"0", 1, 2}, {"1", 1, 2}, {"-1/2", 1, 2}, {"3/2", 1, 2}, {"2", 1, 2}, {"-1", 1, 2}, {"1/1000000", 1, 2}, {"999999/1000000", 1, 2}, {"1000000/1000001", 1, 2}, {"1/" + nines, 1, 2}, {nines, 1, 2}, {"-" + nines, 1, 2}, {nines[1:] + "/" + nines[1:] + "8", 1, 2},
		{"1/2", 0, 0}, {"1/2", 0, 31}, {"1/2", 1, 31}, {"1/2", 0, -1}, {"1/2", -1, -1}, {"1/2", -1, 1}, {"1/2", 2, 1}, {"1/2", 31, 30}, {"1/2", math.MaxInt, 30}, {"1/2", math.MinInt, 30}, {"1/2", 0, math.MaxInt}, {"1/2", 0, math.MinInt}, {"1/2", math.MinInt, math.MinInt}, {"1/2", 1, 1 << 32}, {"1/2", 1<<32 + 1, 30}, {"0", -1, 31},
	} {
		p := read(x.p)
		refuses(t, fmt.Sprintf("Ruin(%.30s, %d, %d)", x.p, x.from, x.to), api.ErrArg, func() (result, api.Errno) {
			c, g, e := walk.Ruin(p, x.from, x.to)
			return result{c, g}, e
		})
	}
}

// P6.6: for amounts of up to 7 the game is a chain.
func TestRuinChain(t *testing.T) {
	random := rand.New(rand.NewSource(103))
	for range 60 {
		to := 1 + random.Intn(7)
		low := 2 + random.Int63n(999998)
		p, _ := num.Make(1+random.Int63n(low-1), low)
		lose, _ := num.Of(1).Sub(p)
		m := unit(to + 1)
		for i := 1; i < to; i++ {
			m[i][i], m[i][i+1], m[i][i-1] = num.Of(0), p, lose
		}
		chances := must[[]num.Rat](t)(walk.Reach(m, 1<<to))
		expected := must[[]num.Rat](t)(walk.Time(m, 1<<to+1))
		for from := range to + 1 {
			c, g, e := walk.Ruin(p, from, to)
			if c.Cmp(chances[from]) != 0 || g.Cmp(expected[from]) != 0 || e != api.OK {
				t.Fatalf("Ruin(%s, %d, %d): %s, %s, %d, but %s, %s", p, from, to, c, g, e, chances[from], expected[from])
			}
		}
	}
}

// P6.9: with equal chances.
func TestPascalHuygens(t *testing.T) {
	half := read("1/2")
	for to := 1; to <= 30; to++ {
		for from := range to + 1 {
			c, g, e := walk.Ruin(half, from, to)
			want, _ := num.Make(int64(from), int64(to))
			if c.Cmp(want) != 0 || g.Cmp(num.Of(int64(from*(to-from)))) != 0 || e != api.OK {
				t.Errorf("Ruin(1/2, %d, %d): %s, %s, %d", from, to, c, g, e)
			}
		}
	}
}

package shop_test

import (
	"fmt"
	"strings"
	"testing"

	"squeegee/shop"
)

// P11.1: the chapter's examples.
func TestExamples(t *testing.T) {
	talk(t, shop.New(), `
order (ab)* => ok
has abab => has yes
has - => has yes
states => states 3
promise a (#p>p) => ok
keep a T => keep valid
keep a K => keep maybe
chance 0 0 1/2 1/2 0 => ok
reach 0 1 => reach 1/2
use 0 0 1/2 => ok
make => make 2 1 1
offer 0 0 5 => ok
offer 1 0 8 => ok
deal => deal - 0 - -
pay => pay 0 5 0 0
move 1 => ok
home => home 1
`)
}

// P11.1: what a new shop answers.
func TestNew(t *testing.T) {
	talk(t, shop.New(), `
has - => has no
has a => has no
states => states 1
keep a K => error 4
drop a => error 4
reach 0 0 => reach 1
reach 0 1 => reach 0
reach 3 3 => reach 1
share 0 => share 1 0 0 0
share 3 => share 0 0 0 1
firms => firms yes
make => make 1 1 1
deal => deal - - - -
pay => pay 0 0 0 0
cups => error 90
cross => error 90
home => home 0
`)
}

// P11.1: order takes what chapter 2 takes, and nothing else changes the expression.
func TestOrder(t *testing.T) {
	s := shop.New()
	long := strings.Repeat("a", 200)
	talk(t, s, `
order a*b => ok
order ( => error 20
order d => error 20
order - => error 20
order A => error 20
order => error 110
order  => error 110
order a b => error 110
has aab => has yes
has a => has no
order !(a*b) => ok
has aab => has no
has - => has yes
order 1 => ok
states => states 2
order `+long+` => ok
order `+long+`a => error 20
order `+strings.Repeat("(", 30)+"c"+strings.Repeat(")", 30)+` => ok
order `+strings.Repeat("(", 31)+"c"+strings.Repeat(")", 31)+` => error 20
has c => has yes
`)
}

// P11.1: has and states answer what chapter 2 does.
func TestHas(t *testing.T) {
	letters := strings.Repeat("ab", 50)
	talk(t, shop.New(), `
order (ab)* => ok
has a => has no
has ab => has yes
has ba => has no
has d => error 21
has a- => error 21
has -- => error 21
has A => error 21
has 0 => error 21
has `+letters+` => has yes
has `+letters+`a => error 21
has => error 110
has a b => error 110
order !0 => ok
states => states 1
has - => has yes
order a => ok
states => states 3
has - => has no
order (a|b|c)*a`+strings.Repeat("(a|b|c)", 6)+` => ok
states => states 128
order (a|b|c)*a`+strings.Repeat("(a|b|c)", 7)+` => ok
states => error 22
has a => error 22
has d => error 21
`)
}

// P11.1: promise and drop, their limit, and the order of their errors.
func TestPromise(t *testing.T) {
	s := shop.New()
	long := strings.Repeat("!", 59) + "p"
	talk(t, s, `
promise a p => ok
promise a q => error 5
promise a ( => error 5
promise b ( => error 50
promise b s => error 50
promise b (p&q => error 50
promise b - => error 50
promise b => error 110
promise b  => error 110
promise b p q => error 110
promise B p => error 110
promise b1 p => error 110
promise  p => error 110
promise abcdefghijklm p => error 110
promise abcdefghijkl p => ok
promise b `+long+` => ok
promise c !`+long+` => error 50
drop c => error 4
drop abcdefghijkl => ok
drop abcdefghijkl => error 4
drop b => ok
drop => error 110
drop a a => error 110
drop A => error 110
drop abcdefghijklm => error 110
keep a K => keep maybe
keep b K => error 4
`)
	for i := 1; i < 20; i++ {
		talk(t, s, fmt.Sprintf("promise b%c 0 => ok", 'a'+i))
	}
	talk(t, s, `
promise bz 0 => error 8
promise bz ( => error 8
promise a 0 => error 5
promise bb 0 => error 5
drop a => ok
promise bz ( => error 50
promise bz 0 => ok
promise a 0 => error 8
keep bz K => keep never
`)
}

// P11.1: keep tells valid, satisfiable and other formulas apart, in each class.
func TestKeep(t *testing.T) {
	talk(t, shop.New(), `
promise t (#p>p) => ok
promise four (#p>##p) => ok
promise k (#(p>q)>(#p>#q)) => ok
promise never (p&!p) => ok
promise dead (*p&#0) => ok
promise odd (p&#!p) => ok
promise only #0 => ok
keep t K => keep maybe
keep t T => keep valid
keep t 4 => keep maybe
keep t S => keep valid
keep four K => keep maybe
keep four T => keep maybe
keep four 4 => keep valid
keep four S => keep valid
keep k K => keep valid
keep k S => keep valid
keep never K => keep never
keep dead 4 => keep never
keep odd K => keep maybe
keep odd T => keep never
keep odd 4 => keep maybe
keep odd S => keep never
keep only K => keep maybe
keep only T => keep never
keep none K => error 4
keep none X => error 110
keep t X => error 110
keep t k => error 110
keep t KT => error 110
keep t => error 110
keep t  => error 110
keep t K K => error 110
keep T K => error 110
`)
}

// P11.1: chance takes what makes a chain, and the order of its errors.
func TestChance(t *testing.T) {
	talk(t, shop.New(), `
chance 0 1/2 1/2 0 0 => ok
chance 4 0 0 0 1 => error 1
chance -1 0 0 0 1 => error 1
chance 4 x 0 0 0 => error 1
chance 0 x 0 0 0 => error 10
chance 0 2/4 1/2 0 0 => error 10
chance 0 1/2 +1/2 0 0 => error 10
chance 0 7 7 7 01 => error 10
chance 0 1/0 0 0 0 => error 10
chance 0 1/2 1/3 0 0 => error 60
chance 0 -1 2 0 0 => error 60
chance 0 0 0 0 0 => error 60
chance 0 1/1000000 999999/1000000 0 0 => error 60
chance 0 1 0 0 => error 110
chance 0 1 0 0 0 0 => error 110
chance x 1 0 0 0 => error 110
chance 01 1 0 0 0 => error 110
chance 0  1 0 0 0 => error 110
chance 0 1 0 0  => error 110
reach 0 1 => reach 1
chance 1 1/999999 999998/999999 0 0 => ok
share 0 => share 2/1000001 999999/1000001 0 0
chance 2 0 0 0 1 => ok
chance 3 0 0 1 0 => ok
share 3 => share 0 0 1/2 1/2
`)
}

// P11.1: reach and share answer what chapter 6 does.
func TestReach(t *testing.T) {
	talk(t, shop.New(), `
chance 1 1/3 0 2/3 0 => ok
chance 2 0 1/3 0 2/3 => ok
reach 1 0 => reach 3/7
reach 1 3 => reach 4/7
reach 2 0 => reach 1/7
reach 2 2 => reach 1
reach 3 2 => reach 0
reach 0 4 => error 1
reach 4 0 => error 1
reach -1 0 => error 1
reach 0 -1 => error 1
reach 0 64 => error 1
reach 0 => error 110
reach 0 1 2 => error 110
reach 0 x => error 110
share 0 => share 1 0 0 0
share 1 => error 61
share 2 => error 61
share 4 => error 1
share -1 => error 1
share => error 110
share 0 0 => error 110
`)
}

// P11.1: use takes what makes a table, and firms and make answer what chapter 7 does.
func TestUse(t *testing.T) {
	talk(t, shop.New(), `
use 0 1 2 => ok
use 1 0 1/4 => ok
make => make 6 5/2 1
firms => firms yes
use 3 0 1 => error 1
use 0 3 1 => error 1
use -1 0 1 => error 1
use 0 -1 x => error 1
use 0 0 x => error 10
use 0 0 0/1 => error 10
use 0 0 -1 => error 70
use 0 0 1000000 => error 70
use 0 0 1/1000000 => error 70
use 0 0 => error 110
use 0 0  => error 110
use 0 0 0 0 => error 110
use x 0 0 => error 110
make => make 6 5/2 1
use 2 2 999999/1000000 => error 70
use 2 2 999998/999999 => ok
make => make 6 5/2 999999
use 2 2 999999 => ok
make => error 4
firms => firms no
use 2 2 0 => ok
use 1 0 1/2 => ok
firms => firms no
make => error 4
use 1 0 0 => ok
make => make 3 1 1
firms x => error 110
make x => error 110
make  => error 110
`)
}

// P11.1: offer takes offers, and deal and pay answer what chapter 8 does.
func TestOffer(t *testing.T) {
	talk(t, shop.New(), `
offer 4 0 1 => error 1
offer -1 0 1 => error 1
offer 0 3 1 => error 1
offer 0 -1 1 => error 1
offer 0 0 -1 => error 1
offer 0 0 1000001 => error 110
offer 0 0 1/2 => error 110
offer 0 0 => error 110
offer 0 0 1 1 => error 110
deal => deal - - - -
offer 0 0 3 => ok
offer 0 1 1 => ok
offer 1 0 2 => ok
offer 1 1 2 => ok
deal => deal 0 1 - -
pay => pay 0 0 0 0
offer 2 0 1000000 => ok
offer 3 2 7 => ok
deal => deal - 1 0 2
pay => pay 0 1 3 0
offer 2 0 0 => ok
deal => deal 0 1 - 2
deal x => error 110
pay x => error 110
`)
}

// P11.1: the first best allocation is dealt: of equal offers that of the last bidder, and no item for an offer of 0, nor two for one bidder.
func TestDealTies(t *testing.T) {
	talk(t, shop.New(), `
offer 0 0 5 => ok
offer 1 0 5 => ok
deal => deal - 0 - -
pay => pay 0 5 0 0
offer 3 0 5 => ok
deal => deal - - - 0
offer 0 0 0 => ok
offer 1 0 0 => ok
offer 3 1 5 => ok
offer 3 2 5 => ok
deal => deal - - - 0
pay => pay 0 0 0 0
offer 3 0 4 => ok
deal => deal - - - 1
offer 0 2 1 => ok
offer 1 2 1 => ok
offer 2 2 1 => ok
deal => deal - - 2 1
pay => pay 0 0 1 0
`)
}

// P11.1: window takes points, up to 14, and cups and cross answer what chapter 9 does.
func TestWindow(t *testing.T) {
	s := shop.New()
	talk(t, s, `
window 0 0 => ok
cups => error 1
cross => cross 0
window 1 1 => ok
cups => cups 2 2
window 2 0 => ok
window 3 1 => ok
cups => cups 3 3
cross => cross 1
window 3 1 => error 90
window 1001 0 => error 90
window 0 -1001 => error 90
window 1000001 0 => error 110
window 0 => error 110
window 0 0 0 => error 110
window 0 x => error 110
cups x => error 110
cross x => error 110
window 4 6 => ok
window 5 13 => ok
cups => cups 5 3
window 1000 -1000 => ok
window -1000 1000 => ok
cups => error 1
cross => error 1
window 10 10 => ok
window 11 10 => ok
window 12 10 => ok
window 13 10 => ok
window 14 10 => ok
window 14 10 => error 90
window 15 10 => ok
window 16 10 => error 1
window 15 10 => error 1
window 1001 0 => error 1
`)
}

// P11.1: cups and cross of fourteen points on a bow.
func TestFullWall(t *testing.T) {
	s := shop.New()
	for i := range 14 {
		talk(t, s, fmt.Sprintf("window %d %d => ok", i, i*i))
	}
	talk(t, s, "cups => cups 14 2\ncross => cross 1001\nwindow 20 20 => error 1")
}

// P11.1: move moves the hole along an edge, and home counts the way back.
func TestMove(t *testing.T) {
	s := shop.New()
	talk(t, s, `
move 0 => error 4
move 2 => error 4
move 4 => error 4
move 5 => error 4
move 6 => error 1
move -1 => error 1
move 1000000 => error 1
move 1000001 => error 110
move 01 => error 110
move x => error 110
move => error 110
move 1 1 => error 110
home => home 0
move 3 => ok
move 0 => ok
home => home 0
move 1 => ok
move 2 => ok
home => home 2
move 3 => error 4
move 2 => error 4
move 5 => ok
move 4 => ok
move 3 => ok
move 0 => ok
home => home 6
home x => error 110
`)
	if p := fmt.Sprint(s.Position()); p != "[0 2 5 1 3 4]" {
		t.Errorf("the position is %s", p)
	}
}

// P11.1: home from the position that needs most moves.
func TestFarHome(t *testing.T) {
	for far, moves := range ways {
		if moves != 21 {
			continue
		}
		s := shop.New()
		for p := far; moves > 0; moves-- {
			s = backTo(t, p)
		}
		talk(t, s, "home => home 21")
		return
	}
	t.Error("no position needs 21 moves")
}

// backTo is a shop with that position.
func backTo(t *testing.T, p [6]int) *shop.Shop {
	t.Helper()
	var places []int
	for ways[p] > 0 {
		at := hole(p)
		for _, to := range ropes[at] {
			if then := moved(p, int(to-'0')); ways[then] < ways[p] {
				places = append(places, at)
				p = then
				break
			}
		}
	}
	s := shop.New()
	for i := len(places) - 1; i >= 0; i-- {
		talk(t, s, fmt.Sprintf("move %d => ok", places[i]))
	}
	return s
}

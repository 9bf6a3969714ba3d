package enclosure_test

import (
	"math"
	"math/big"
	"math/rand"
	"strings"
	"testing"

	"yardstick/api"
	"yardstick/enclosure"
)

// checkSets checks Hull and Meet of two intervals, in both orders.
func checkSets(t *testing.T, a, b api.Interval) {
	t.Helper()
	lowest, lower, upper, uppermost := a.Lo, b.Lo, a.Hi, b.Hi
	if value(lower).Cmp(value(lowest)) < 0 {
		lowest, lower = lower, lowest
	}
	if value(uppermost).Cmp(value(upper)) < 0 {
		upper, uppermost = uppermost, upper
	}
	for _, x := range [][2]api.Interval{{a, b}, {b, a}} {
		hull, err := enclosure.Hull(x[0], x[1])
		wantInterval(t, shown("Hull", x[:]...), hull, err, api.Interval{Lo: lowest, Hi: uppermost})
		meet, err := enclosure.Meet(x[0], x[1])
		if value(lower).Cmp(value(upper)) > 0 {
			wantRefused(t, shown("Meet", x[:]...), meet, err)
		} else {
			wantInterval(t, shown("Meet", x[:]...), meet, err, api.Interval{Lo: lower, Hi: upper})
		}
	}
}

// P5.1, P5.6: Hull and Meet of all small intervals; what both contain, and what one of them does.
func TestHullAndMeet(t *testing.T) {
	for _, a := range smallIntervals() {
		for _, b := range smallIntervals() {
			checkSets(t, a, b)
			hull, _ := enclosure.Hull(a, b)
			meet, err := enclosure.Meet(a, b)
			for _, r := range smallRats() {
				inA, inB := enclosure.Contains(a, ratio(r)), enclosure.Contains(b, ratio(r))
				if enclosure.Contains(meet, ratio(r)) != (inA && inB) || (inA || inB) && !enclosure.Contains(hull, ratio(r)) {
					t.Errorf("%s, %s: %v", shown("Meet and Hull", a, b), shown("", meet, hull), r)
				}
			}
			if !enclosure.Within(a, hull) || !enclosure.Within(b, hull) || err == api.OK && (!enclosure.Within(meet, a) || !enclosure.Within(meet, b)) {
				t.Errorf("%s = %s", shown("Meet and Hull", a, b), shown("", meet, hull))
			}
		}
	}
}

// P5.6: intervals of any length, whose sums and products would be too large.
func TestHullAndMeetLong(t *testing.T) {
	source := rand.New(rand.NewSource(7))
	for i := range 400 {
		a, b := random(source, 1+i/2), random(source, 1+i/2)
		checkSets(t, a, b)
		checkSets(t, a, a)
		checkSets(t, a, span(value(a.Hi), new(big.Rat).SetInt(whole(strings.Repeat("9", 200)))))
	}
	// Ends that touch, or differ by less than any fraction of 200 digits could show.
	most, less := strings.Repeat("9", 200), strings.Repeat("9", 199)+"8"
	x, y := less+"/"+most, strings.Repeat("9", 199)+"7/"+less
	for _, ends := range []string{x, y} {
		for _, others := range []string{x, y} {
			checkSets(t, interval("-1 "+ends), interval(others+" 7"))
		}
	}
}

// P5.1: Width of all small intervals, and of ends whose difference is too large.
func TestWidth(t *testing.T) {
	l := smallIntervals()
	source := rand.New(rand.NewSource(8))
	for i := range 600 {
		l = append(l, random(source, 1+i%130))
	}
	eight, nine, tenth := "8"+ten(199)[1:], "9"+ten(199)[1:], ten(199)
	for _, s := range []string{
		"-" + tenth + " " + eight, "-" + tenth + " " + nine, "1/" + ten(100) + " " + ten(99), "1/" + ten(100) + " " + ten(100), "-" + ten(99) + " 1/" + ten(100), "-" + ten(100) + " 1/" + ten(100),
		"1/" + ten(100) + " 1/" + ten(99), "1/" + ten(101) + " 1/" + ten(99), nine, "1/" + ten(100), "1/" + ten(99), "0 1/" + ten(199),
	} {
		l = append(l, interval(s))
	}
	for _, a := range l {
		lo, hi := value(a.Lo), value(a.Hi)
		got, err := enclosure.Width(a)
		if !fit(operations()[1].parts(hi, lo)...) {
			wantRefused(t, shown("Width", a), got, err)
		} else if got != ratio(hi.Sub(hi, lo)) || err != api.OK {
			t.Errorf("%s = %v, %d", shown("Width", a), got, err)
		}
	}
}

// checkRound checks a rounded interval against its definition, and reports whether it was refused.
func checkRound(t *testing.T, a api.Interval, places int) bool {
	t.Helper()
	got, err := enclosure.Round(a, places)
	if places < 0 || places > api.MaxPlaces || !fit(product(whole(a.Lo.Num), whole(ten(places))), product(whole(a.Hi.Num), whole(ten(places)))) {
		wantRefused(t, shown("Round", a), got, err)
		return true
	}
	if err != api.OK || !enclosure.Valid(got) || !enclosure.Within(a, got) {
		t.Fatalf("%s, %d places: %s, %d", shown("Round", a), places, shown("", got), err)
	}
	unit := grid(places)
	down, up := new(big.Rat).Sub(value(a.Lo), value(got.Lo)), new(big.Rat).Sub(value(got.Hi), value(a.Hi))
	if !onGrid(value(got.Lo), unit) || !onGrid(value(got.Hi), unit) || down.Cmp(unit) >= 0 || up.Cmp(unit) >= 0 {
		t.Fatalf("%s, %d places: %s", shown("Round", a), places, shown("", got))
	}
	// Both ends have moved by less than 1 / t.
	wider := new(big.Rat).Sub(value(got.Hi), value(got.Lo))
	wider.Sub(wider, new(big.Rat).Sub(value(a.Hi), value(a.Lo)))
	if wider.Cmp(new(big.Rat).Add(unit, unit)) >= 0 {
		t.Fatalf("%s, %d places: wider by %v", shown("Round", a), places, wider)
	}
	return false
}

// P5.1, P5.6: Round of small intervals and of random ones, in all places, and in those that there are not.
func TestRound(t *testing.T) {
	for _, a := range smallIntervals() {
		for places := range api.MaxPlaces + 1 {
			if checkRound(t, a, places) {
				t.Errorf("%s, %d places: refused", shown("Round", a), places)
			}
		}
		for _, n := range []int{math.MinInt, -1, 31, 1 << 32, math.MaxInt} {
			if !checkRound(t, a, n) {
				t.Errorf("%s, %d places: not refused", shown("Round", a), n)
			}
		}
	}
	source := rand.New(rand.NewSource(9))
	for i := range 1000 {
		checkRound(t, random(source, 1+i%200), i%(api.MaxPlaces+1))
	}
}

// P5.1: Num * t of 200 digits and of 201, in the lower end only, in the upper end only, of both signs.
func TestRoundTooLarge(t *testing.T) {
	for places := 1; places <= api.MaxPlaces; places++ {
		digits := api.MaxDigits - places
		for _, d := range []string{"1", "7", ten(198) + "1"} {
			fits, tooLarge := ten(digits-1)+"/"+d, ten(digits)+"/"+d
			for _, other := range []string{"0 ", ""} {
				if checkRound(t, interval(other+fits), places) || !checkRound(t, interval(other+tooLarge), places) {
					t.Errorf("%d digits / %s in %d places", digits, d, places)
				}
			}
			for _, other := range []string{" 0", ""} {
				if checkRound(t, interval("-"+fits+other), places) || !checkRound(t, interval("-"+tooLarge+other), places) {
					t.Errorf("- %d digits / %s in %d places", digits, d, places)
				}
			}
		}
	}
}

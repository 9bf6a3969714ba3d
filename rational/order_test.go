package rational_test

import (
	"math"
	"math/big"
	"math/rand"
	"testing"

	"yardstick/api"
	"yardstick/rational"
)

// checkCompare checks the order of two fractions, both ways round and with both signs.
func checkCompare(t *testing.T, a, b api.Ratio) {
	t.Helper()
	want := value(a).Cmp(value(b))
	if rational.Compare(a, b) != want || rational.Compare(b, a) != -want || rational.Compare(negated(a), negated(b)) != -want {
		t.Fatalf("%s = %d; want %d", shown("Compare", a, b), rational.Compare(a, b), want)
	}
}

// P4.1, P4.4: Compare is the order of the values, of whatever size.
func TestCompare(t *testing.T) {
	l := someFractions()
	for _, a := range l {
		for _, b := range l {
			if got, want := rational.Compare(a, b), value(a).Cmp(value(b)); got != want {
				t.Fatalf("%s = %d; want %d", shown("Compare", a, b), got, want)
			}
		}
	}
	for n := int64(-12); n <= 12; n++ {
		for d := int64(1); d <= 9; d++ {
			for m := int64(-12); m <= 12; m++ {
				for e := int64(1); e <= 9; e++ {
					checkCompare(t, fraction(big.NewInt(n), big.NewInt(d)), fraction(big.NewInt(m), big.NewInt(e)))
				}
			}
		}
	}
}

// P4.4: neighbours, whose products crosswise differ by 1 and have up to 400 digits.
func TestCompareClose(t *testing.T) {
	random := rand.New(rand.NewSource(5))
	one := big.NewInt(1)
	for digits := 1; digits <= 200; digits++ {
		for range 3 {
			d := randomInteger(random, digits)
			n := new(big.Int).Mod(randomInteger(random, digits), plus(d, one))
			r := fraction(n, d)
			n, d = number(r.Num), number(r.Den)
			// n * x - d * y = 1
			x, y := new(big.Int), new(big.Int)
			new(big.Int).GCD(x, y, n, d)
			x.Mod(x, d)
			if x.Sign() == 0 {
				x.Set(d)
			}
			y.Div(minus(times(n, x), one), d)
			checkCompare(t, r, fraction(y, x))
			checkCompare(t, r, r)
			if bigger := plus(n, one); fits(bigger) {
				checkCompare(t, r, fraction(bigger, d))
			}
			if bigger := plus(d, one); fits(bigger) {
				checkCompare(t, r, fraction(n, bigger))
			}
		}
	}
}

// P4.4: quotients of the numbers whose continued fractions are longest.
func TestCompareLongest(t *testing.T) {
	a, b, c := big.NewInt(1), big.NewInt(1), big.NewInt(2)
	for i := 0; fits(c); i++ {
		if i < 30 || i%9 == 0 || !fits(times(c, big.NewInt(20))) {
			checkCompare(t, fraction(b, a), fraction(c, b))
			checkCompare(t, fraction(a, b), fraction(b, c))
			checkCompare(t, fraction(c, b), fraction(c, b))
		}
		a, b, c = b, c, plus(b, c)
	}
}

// P4.1: what is no valid fraction compares as equal.
func TestCompareRefused(t *testing.T) {
	for _, bad := range notFractions() {
		for _, other := range []api.Ratio{parsed("0"), parsed("5"), parsed("-5"), parsed("1/3"), bad, {}} {
			if rational.Compare(bad, other) != 0 || rational.Compare(other, bad) != 0 {
				t.Errorf("%s is not 0", shown("Compare", bad, other))
			}
		}
	}
}

// P4.4: Compare is the sign of the difference, and an order that adding and multiplying keep.
func TestOrder(t *testing.T) {
	random := rand.New(rand.NewSource(6))
	zero := parsed("0")
	for i := range 3000 {
		digits := 1 + i%40
		a, b, c := randomFraction(random, digits), randomFraction(random, digits), randomFraction(random, digits)
		order := rational.Compare(a, b)
		if (order == 0) != (a == b) || order != -rational.Compare(b, a) {
			t.Fatalf("%s = %d", shown("Compare", a, b), order)
		}
		if order <= 0 && rational.Compare(b, c) <= 0 && rational.Compare(a, c) > 0 {
			t.Fatalf("%v, %v and %v are in no order", a, b, c)
		}
		if rational.Compare(must(t, rational.Sub, a, b), zero) != order {
			t.Fatalf("%s = %d: not the sign of the difference", shown("Compare", a, b), order)
		}
		if rational.Compare(must(t, rational.Add, a, c), must(t, rational.Add, b, c)) != order {
			t.Fatalf("%s = %d: not with %v added", shown("Compare", a, b), order, c)
		}
		if sign := rational.Compare(c, zero); rational.Compare(must(t, rational.Mul, a, c), must(t, rational.Mul, b, c)) != order*sign {
			t.Fatalf("%s = %d: not with %v multiplied", shown("Compare", a, b), order, c)
		}
	}
}

// rounded returns the multiple of 1 / t next to r that is not greater, or not less.
func rounded(r api.Ratio, t *big.Int, up bool) api.Ratio {
	// Euclidean division rounds down, for a positive divisor.
	whole, rest := new(big.Int).DivMod(times(number(r.Num), t), number(r.Den), new(big.Int))
	if up && rest.Sign() != 0 {
		whole.Add(whole, big.NewInt(1))
	}
	return fraction(whole, t)
}

// checkRounding checks Down and Up of r against their definitions, and reports whether they were refused.
func checkRounding(t *testing.T, r api.Ratio, places int) bool {
	t.Helper()
	down, errDown := rational.Down(r, places)
	up, errUp := rational.Up(r, places)
	if places < 0 || places > api.MaxPlaces || !fits(times(number(r.Num), power(places))) {
		wantRefused(t, shown("Down", r), down, errDown)
		wantRefused(t, shown("Up", r), up, errUp)
		return true
	}
	wantFraction(t, shown("Down", r), down, errDown, rounded(r, power(places), false))
	wantFraction(t, shown("Up", r), up, errUp, rounded(r, power(places), true))
	return false
}

// P4.1, P4.5: Down and Up of all some fractions, in all places.
func TestRounding(t *testing.T) {
	for i, r := range someFractions() {
		for places := -2; places <= api.MaxPlaces+2; places++ {
			if i%5 == 0 || places < 2 || places > 28 {
				checkRounding(t, r, places)
			}
		}
		for _, places := range []int{math.MinInt, math.MaxInt, -1000000, 1000000, 1 << 32, 1<<32 + 1} {
			if !checkRounding(t, r, places) {
				t.Errorf("%d places", places)
			}
		}
	}
}

// P4.5: multiples of 1 / t and their neighbours, of both signs.
func TestRoundingGrid(t *testing.T) {
	random := rand.New(rand.NewSource(7))
	for places := range api.MaxPlaces + 1 {
		unit := power(places)
		for _, k := range []*big.Int{new(big.Int), big.NewInt(1), big.NewInt(10), big.NewInt(99), unit, randomInteger(random, 12), randomInteger(random, 60)} {
			for _, parts := range []*big.Int{big.NewInt(2), big.NewInt(3), power(40), randomInteger(random, 90)} {
				n, d := times(k, parts), times(unit, parts)
				for step := int64(-2); step <= 2; step++ {
					r := fraction(plus(n, big.NewInt(step)), d)
					checkRounding(t, r, places)
					checkRounding(t, negated(r), places)
				}
			}
		}
	}
}

// P4.1, P4.5: numerators that have 200 or 201 digits when they are multiplied, of both signs, and however small r is.
func TestRoundingTooLarge(t *testing.T) {
	one := big.NewInt(1)
	for places := range api.MaxPlaces + 1 {
		least := power(200 - places)
		for _, d := range []*big.Int{one, big.NewInt(7), plus(power(199), one)} {
			for n, refused := range map[*big.Int]bool{minus(least, one): false, plus(least, one): true} {
				r := fraction(n, d)
				if number(r.Num).Cmp(n) != 0 || !fits(n) {
					continue
				}
				if checkRounding(t, r, places) != refused || checkRounding(t, negated(r), places) != refused {
					t.Errorf("%s, %d places: refused: %t", shown("", r), places, !refused)
				}
			}
		}
	}
}

// P4.5: r is between Down and Up, which are equal or 1 / t apart; rounding again changes nothing; Up mirrors Down.
func TestRoundingLaws(t *testing.T) {
	random := rand.New(rand.NewSource(8))
	for i := range 3000 {
		places := i % (api.MaxPlaces + 1)
		r := randomFraction(random, 60)
		down, errDown := rational.Down(r, places)
		up, errUp := rational.Up(r, places)
		if errDown != api.OK || errUp != api.OK || rational.Compare(down, r) > 0 || rational.Compare(r, up) > 0 {
			t.Fatalf("%s, %d places: %v, %v", shown("", r), places, down, up)
		}
		unit, err := rational.Make("1", power(places).String())
		if err != api.OK {
			t.Fatal(err)
		}
		onGrid := must(t, rational.Div, r, unit).Den == "1"
		if (down == up) != onGrid || !onGrid && must(t, rational.Sub, up, down) != unit {
			t.Fatalf("%s, %d places: %v, %v", shown("", r), places, down, up)
		}
		for _, end := range []api.Ratio{down, up} {
			if must(t, rational.Div, end, unit).Den != "1" {
				t.Fatalf("%v has more than %d places", end, places)
			}
			for more := places; more <= api.MaxPlaces; more += 7 {
				again, errAgain := rational.Down(end, more)
				wantFraction(t, "Down again", again, errAgain, end)
				again, errAgain = rational.Up(end, more)
				wantFraction(t, "Up again", again, errAgain, end)
			}
		}
		mirrored, err := rational.Down(negated(r), places)
		wantFraction(t, shown("Down of minus", r), mirrored, err, negated(up))
	}
}

// P4.1: rounding what is no valid fraction.
func TestRoundingRefused(t *testing.T) {
	for _, bad := range notFractions() {
		for _, places := range []int{-1, 0, 1, 30, 31} {
			r, err := rational.Down(bad, places)
			wantRefused(t, shown("Down", bad), r, err)
			r, err = rational.Up(bad, places)
			wantRefused(t, shown("Up", bad), r, err)
		}
	}
}

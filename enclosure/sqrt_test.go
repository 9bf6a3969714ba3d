package enclosure_test

import (
	"math"
	"math/big"
	"math/rand"
	"strings"
	"testing"

	"yardstick/api"
	"yardstick/enclosure"
)

// grid returns 1 / t for a number of places.
func grid(places int) *big.Rat {
	return rat("1/" + ten(places))
}

// onGrid reports whether r is a multiple of the unit.
func onGrid(r, unit *big.Rat) bool {
	return new(big.Rat).Quo(r, unit).IsInt()
}

func square(r *big.Rat) *big.Rat {
	return new(big.Rat).Mul(r, r)
}

// checkSqrt checks a root against its definition, and reports whether it was refused.
func checkSqrt(t *testing.T, a api.Interval, places int) bool {
	t.Helper()
	call := shown("Sqrt", a)
	got, err := enclosure.Sqrt(a, places)
	if value(a.Lo).Sign() < 0 || places < 0 || places > api.MaxPlaces {
		wantRefused(t, call, got, err)
		return true
	}
	scale := square(rat(ten(places))).Num()
	if !fit(product(whole(a.Lo.Num), scale), product(whole(a.Hi.Num), scale)) {
		wantRefused(t, call, got, err)
		return true
	}
	if err != api.OK || !enclosure.Valid(got) {
		t.Fatalf("%s, %d places: %s, %d", call, places, shown("", got), err)
	}
	lo, hi, unit := value(got.Lo), value(got.Hi), grid(places)
	if !onGrid(lo, unit) || lo.Sign() < 0 || square(lo).Cmp(value(a.Lo)) > 0 || square(new(big.Rat).Add(lo, unit)).Cmp(value(a.Lo)) <= 0 {
		t.Fatalf("%s, %d places: Lo is %v", call, places, lo)
	}
	if !onGrid(hi, unit) || hi.Sign() < 0 || square(hi).Cmp(value(a.Hi)) < 0 {
		t.Fatalf("%s, %d places: Hi is %v", call, places, hi)
	}
	if hi.Sign() > 0 && square(new(big.Rat).Sub(hi, unit)).Cmp(value(a.Hi)) >= 0 {
		t.Fatalf("%s, %d places: Hi is %v", call, places, hi)
	}
	return false
}

// P5.1, P5.5: all small intervals, in all places; only what begins below 0 is refused.
func TestSqrtSmall(t *testing.T) {
	for _, a := range smallIntervals() {
		for places := range api.MaxPlaces + 1 {
			if refused := checkSqrt(t, a, places); refused != (value(a.Lo).Sign() < 0) {
				t.Errorf("%s, %d places: refused: %t", shown("Sqrt", a), places, refused)
			}
		}
	}
	for n := int64(0); n <= 130; n++ {
		for d := int64(1); d <= 12; d++ {
			r := big.NewRat(n, d)
			checkSqrt(t, span(r, r), 0)
			checkSqrt(t, span(r, big.NewRat(n+3, d)), 1)
			checkSqrt(t, span(new(big.Rat), r), 2)
		}
	}
}

// P5.1: places below 0 and above 30.
func TestSqrtPlaces(t *testing.T) {
	for _, n := range []int{math.MinInt, -1 << 32, -31, -2, -1, 31, 32, 100, 1 << 32, 1<<32 + 1, math.MaxInt} {
		for _, a := range []string{"0", "1", "2 3", "1/" + ten(199)} {
			if !checkSqrt(t, interval(a), n) {
				t.Errorf("Sqrt [%s] in %d places is not refused", a, n)
			}
		}
	}
}

// P5.1, P5.5: squares of multiples of 1 / t, and what is next to them.
func TestSqrtSquares(t *testing.T) {
	source := rand.New(rand.NewSource(5))
	for places := range api.MaxPlaces + 1 {
		for _, digits := range []int{1, 2, places + 1, 40} {
			root := new(big.Rat).SetInt(new(big.Int).Rand(source, whole(ten(digits))))
			root.Mul(root, grid(places))
			exact := span(square(root), square(root))
			checkSqrt(t, exact, places)
			got, err := enclosure.Sqrt(exact, places)
			wantInterval(t, shown("Sqrt", exact), got, err, span(root, root))
			for _, step := range []*big.Rat{grid(60), grid(2 * places), grid(90)} {
				above := new(big.Rat).Add(square(root), step)
				checkSqrt(t, span(square(root), above), places)
				checkSqrt(t, span(above, above), places)
				if below := new(big.Rat).Sub(square(root), step); below.Sign() >= 0 {
					checkSqrt(t, span(below, square(root)), places)
					checkSqrt(t, span(below, below), places)
					checkSqrt(t, span(below, above), places)
				}
			}
		}
	}
}

// P5.1: Num * t * t of 200 digits and of 201, in the lower end only, in the upper end only, and in both.
func TestSqrtTooLarge(t *testing.T) {
	for places := range api.MaxPlaces + 1 {
		digits := api.MaxDigits - 2*places
		fits, most, tooLarge := ten(digits-1), strings.Repeat("9", digits), ten(digits)
		small := "/" + ten(198) + "1"
		for _, a := range []string{fits, most, "0 " + fits, "0 " + most, most + "/7", fits + small, "0 " + most + small, fits + small + " 1", most + small + " 10"} {
			if checkSqrt(t, interval(a), places) {
				t.Errorf("Sqrt [%s] in %d places is refused", a, places)
			}
		}
		// In 0 places, no valid fraction is too large.
		if places == 0 {
			continue
		}
		for _, a := range []string{tooLarge, "0 " + tooLarge, "0 " + tooLarge + "/7", tooLarge + small, "0 " + tooLarge + small, tooLarge + small + " 1"} {
			if !enclosure.Valid(interval(a)) || !checkSqrt(t, interval(a), places) {
				t.Errorf("Sqrt [%s] in %d places is not refused", a, places)
			}
		}
	}
}

// P5.1: what begins below 0, however little.
func TestSqrtNegative(t *testing.T) {
	for _, a := range []string{"-1", "-1 1", "-1 0", "-1/" + ten(199) + " 5", "-" + ten(199) + " 5", "-4 4"} {
		for _, n := range []int{0, 1, 30} {
			if !checkSqrt(t, interval(a), n) {
				t.Errorf("Sqrt [%s] is not refused", a)
			}
		}
	}
}

// P5.5: a root contains each fraction whose square the interval contains.
func TestSqrtContains(t *testing.T) {
	source := rand.New(rand.NewSource(6))
	for i := range 1000 {
		places := i % (api.MaxPlaces + 1)
		lo, hi := randomRat(source, 30), randomRat(source, 30)
		lo, hi = lo.Abs(lo), hi.Abs(hi)
		if lo.Cmp(hi) > 0 {
			lo, hi = hi, lo
		}
		if i%7 == 0 {
			lo = new(big.Rat)
		}
		a := span(square(lo), square(hi))
		checkSqrt(t, a, places)
		got, err := enclosure.Sqrt(a, places)
		for range 3 {
			if r := inside(source, span(lo, hi)); err != api.OK || !has(got, r) {
				t.Fatalf("%s, %d places: %s, %d does not contain %v", shown("Sqrt", a), places, shown("", got), err, r)
			}
		}
	}
}

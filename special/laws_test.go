package special_test

import (
	"math/big"
	"math/rand"
	"strings"
	"testing"

	"yardstick/api"
	"yardstick/enclosure"
	"yardstick/special"
)

// accepted returns a function that returns the interval of a call, which must not be refused.
func accepted(t *testing.T) func(got api.Interval, err api.Errno) api.Interval {
	return func(got api.Interval, err api.Errno) api.Interval {
		t.Helper()
		if err != api.OK || !enclosure.Valid(got) {
			t.Fatalf("%v, %d", got, err)
		}
		return got
	}
}

// wantMeet checks that two intervals have something in common.
func wantMeet(t *testing.T, a, b api.Interval, of ...*big.Rat) {
	t.Helper()
	if _, err := enclosure.Meet(a, b); err != api.OK {
		t.Errorf("%v: %v does not meet %v", of, a, b)
	}
}

// point returns the interval of x alone.
func point(x *big.Rat) api.Interval {
	return enclosure.Point(ratio(x))
}

// short reports whether the fraction with the value x is short.
func short(x *big.Rat) bool {
	return len(new(big.Int).Abs(x.Num()).String()) <= api.MaxExact && len(x.Denom().String()) <= api.MaxExact
}

// fractions returns some short fractions from low to high, the same ones for each call with the same seed.
func fractions(seed int64, count int, low, high string) []*big.Rat {
	source := rand.New(rand.NewSource(seed))
	l := []*big.Rat{rat(low), rat(high)}
	for len(l) < count {
		l = append(l, randomFrom(source, rat(low), rat(high)))
	}
	return l
}

// P6.2: the ends are on the grid and at most a cell apart, and within those for fewer places.
func TestNested(t *testing.T) {
	must := accepted(t)
	for call, f := range calls {
		low, high := "-20", "20"
		switch call {
		case "Log":
			low, high = "1/999999999999", "999999999999"
		case "Quantile":
			low, high = "1/1000000", "999999/1000000"
		case "Chi":
			low, high = "0", "100"
		}
		for _, x := range fractions(11, 15, low, high) {
			var last api.Interval
			for places := range api.MaxExact + 1 {
				got, err := f(ratio(x), places)
				must(got, err)
				lo, hi := new(big.Rat).Quo(value(got.Lo), step(places)), new(big.Rat).Quo(value(got.Hi), step(places))
				if !lo.IsInt() || !hi.IsInt() || hi.Sub(hi, lo).Cmp(rat("1")) > 0 {
					t.Errorf("%s(%s, %d) = %v is no cell", call, x, places, got)
				}
				if places > 0 && !enclosure.Within(got, last) {
					t.Errorf("%s(%s, %d) = %v is not within %v", call, x, places, got, last)
				}
				last = got
			}
		}
	}
}

// P6.3: exp(x + y) is exp(x) times exp(y), and log of what exp returns is x.
func TestExpLaws(t *testing.T) {
	must := accepted(t)
	source := rand.New(rand.NewSource(12))
	for range 200 {
		x, y := big.NewRat(source.Int63n(2000001)-1000000, 100000), big.NewRat(source.Int63n(2000001)-1000000, 100000)
		places := source.Intn(13)
		a := must(special.Exp(ratio(x), places))
		b := must(special.Exp(ratio(y), places))
		both := must(special.Exp(ratio(new(big.Rat).Add(x, y)), places))
		wantMeet(t, both, must(enclosure.Mul(a, b)), x, y)
	}
	for _, x := range fractions(13, 100, "-5", "15") {
		cell := must(special.Exp(ratio(x), 4))
		for places := range api.MaxExact + 1 {
			low := must(special.Log(cell.Lo, places))
			high := must(special.Log(cell.Hi, places))
			if value(low.Lo).Cmp(x) > 0 || value(high.Hi).Cmp(x) < 0 {
				t.Errorf("log of exp(%s), which is in %v, is from %v to %v", x, cell, low, high)
			}
		}
	}
}

// P6.4: N grows; N(-x) is 1 - N(x).
func TestNormalLaws(t *testing.T) {
	must := accepted(t)
	one := point(rat("1"))
	for _, x := range fractions(14, 60, "-9", "9") {
		for _, places := range []int{0, 1, 6, 12} {
			cell := must(special.Normal(ratio(x), places))
			other := must(special.Normal(ratio(new(big.Rat).Neg(x)), places))
			if want := must(enclosure.Sub(one, other)); cell != want {
				t.Errorf("Normal(%s, %d) = %v; want %v", x, places, cell, want)
			}
			for _, d := range strings.Fields("1/1000000 1/10 1") {
				further := new(big.Rat).Add(x, rat(d))
				if !short(further) {
					continue
				}
				more := must(special.Normal(ratio(further), places))
				if value(more.Lo).Cmp(value(cell.Lo)) < 0 || value(more.Hi).Cmp(value(cell.Hi)) < 0 {
					t.Errorf("N falls from %v at %s to %v at %s", cell, x, more, further)
				}
			}
		}
	}
}

// P6.4: N at the ends of the cell of Quantile encloses p.
func TestQuantileLaws(t *testing.T) {
	must := accepted(t)
	for _, p := range fractions(15, 60, "1/1000000", "999999/1000000") {
		for _, places := range []int{0, 3, 9, 11} {
			cell := must(special.Quantile(ratio(p), places))
			low := must(special.Normal(cell.Lo, 12))
			high := must(special.Normal(cell.Hi, 12))
			if value(low.Lo).Cmp(p) > 0 || value(high.Hi).Cmp(p) < 0 {
				t.Errorf("Quantile(%s, %d) = %v, where N is %v and %v", p, places, cell, low, high)
			}
		}
	}
}

// P6.5: Q falls with x, and grows with the number of squares.
func TestChiOrder(t *testing.T) {
	must := accepted(t)
	for _, x := range fractions(16, 15, "0", "99") {
		for _, places := range []int{0, 4, 12} {
			var last api.Interval
			for freedom := 1; freedom <= api.MaxFreedom; freedom++ {
				cell := must(special.Chi(ratio(x), freedom, places))
				if freedom > 1 && (value(cell.Lo).Cmp(value(last.Lo)) < 0 || value(cell.Hi).Cmp(value(last.Hi)) < 0) {
					t.Errorf("Chi(%s, %d, %d) = %v is less than %v", x, freedom, places, cell, last)
				}
				last = cell
				for _, d := range strings.Fields("1/10000 1/2 1") {
					x := new(big.Rat).Add(x, rat(d))
					if !short(x) {
						continue
					}
					more := must(special.Chi(ratio(x), freedom, places))
					if value(more.Lo).Cmp(value(cell.Lo)) > 0 || value(more.Hi).Cmp(value(cell.Hi)) > 0 {
						t.Errorf("Chi(%s, %d, %d) = %v is greater than %v", x, freedom, places, more, cell)
					}
				}
			}
		}
	}
}

// P6.5: Q(x, 2) is exp(-x / 2), and Q(x, 1) is 2 - 2 N of the square root of x.
func TestChiLaws(t *testing.T) {
	must := accepted(t)
	two := point(rat("2"))
	for n := int64(0); n <= 400; n += 7 {
		x := big.NewRat(n, 10)
		square := new(big.Rat).Mul(x, x)
		for _, places := range []int{0, 5, 12} {
			cell := must(special.Chi(ratio(x), 2, places))
			if want := must(special.Exp(ratio(big.NewRat(-n, 20)), places)); cell != want {
				t.Errorf("Chi(%s, 2, %d) = %v; want %v", x, places, cell, want)
			}
			if n <= 100 {
				cell := must(special.Chi(ratio(square), 1, places))
				share := must(special.Normal(ratio(x), places))
				twice := must(enclosure.Mul(two, share))
				wantMeet(t, cell, must(enclosure.Sub(two, twice)), x)
			}
		}
	}
}

// P6.6: 1 + x is at most exp(x), and log(x) at most x - 1.
func TestTangents(t *testing.T) {
	must := accepted(t)
	one := rat("1")
	for _, s := range strings.Fields("-20 -1 -1/2 -1/1000000 -1/999999999999 0 1/999999999999 1/1000000 1/2 1 20") {
		for places := range api.MaxExact + 1 {
			cell := must(special.Exp(ratio(rat(s)), places))
			if value(cell.Hi).Cmp(new(big.Rat).Add(one, rat(s))) < 0 {
				t.Errorf("Exp(%s, %d) = %v is below the tangent", s, places, cell)
			}
		}
	}
	for _, s := range strings.Fields("1/999999999999 1/2 999999999998/999999999999 1 999999999999/999999999998 2 10 999999999999") {
		for places := range api.MaxExact + 1 {
			cell := must(special.Log(ratio(rat(s)), places))
			if value(cell.Lo).Cmp(new(big.Rat).Sub(rat(s), one)) > 0 {
				t.Errorf("Log(%s, %d) = %v is above the tangent", s, places, cell)
			}
		}
	}
}

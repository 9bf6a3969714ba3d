package unit_test

import (
	"math/big"
	"strconv"
	"testing"

	"yardstick/api"
	"yardstick/unit"
)

// fits reports whether n has at most 200 digits.
func fits(n *big.Int) bool {
	return len(new(big.Int).Abs(n).String()) <= api.MaxDigits
}

// quotient returns n / d, and whether both fit; it is nil if they do not.
func quotient(n *big.Int, d *big.Int) *big.Rat {
	if !fits(n) || !fits(d) {
		return nil
	}
	return new(big.Rat).SetFrac(n, d)
}

// product returns x * y as rational.Mul has it, or nil if that, or x, is too large.
func product(x *big.Rat, y *big.Rat) *big.Rat {
	if x == nil {
		return nil
	}
	return quotient(new(big.Int).Mul(x.Num(), y.Num()), new(big.Int).Mul(x.Denom(), y.Denom()))
}

// ratio returns x / y as rational.Div has it, or nil if that, or x, is too large.
func ratio(x *big.Rat, y *big.Rat) *big.Rat {
	return product(x, new(big.Rat).Inv(y))
}

// exponent returns the value of a power.
func exponent(p api.Power) *big.Rat {
	return big.NewRat(int64(p.Num), int64(p.Den))
}

// expected returns the plain unit with these exponents, this Factor (nil if it is too large) and this kind, and whether
// there is one.
func expected(dims func(i int) *big.Rat, factor *big.Rat, kind int) (api.Unit, bool) {
	var powers [7]api.Power
	for i := range powers {
		x := dims(i)
		powers[i] = api.Power{Num: int(x.Num().Int64()), Den: int(x.Denom().Int64())}
		if !isPower(powers[i]) {
			return api.Unit{}, false
		}
	}
	if factor == nil {
		return api.Unit{}, false
	}
	u := plain(powers, "1", kind)
	u.Factor = written(factor)
	return u, true
}

// check compares the result of a call with what is expected, and reports whether that is a unit.
func check(t *testing.T, call string, got api.Unit, err api.Errno, want api.Unit, ok bool) bool {
	t.Helper()
	if ok {
		wantUnit(t, call, got, err, want)
	} else {
		wantRefused(t, call, got, err)
	}
	return ok
}

// P7.1: products and quotients of all pairs of some units; and that there are enough of all cases.
func TestMulAndDiv(t *testing.T) {
	l, counts := someUnits(), map[string]int{}
	for _, a := range l {
		for _, b := range l {
			wanted := a.Scale != api.SAbsolute && b.Scale != api.SAbsolute
			kindMul, kindDiv := 0, 0
			switch {
			case b.Scale == api.SRatio:
				kindMul, kindDiv = a.Kind, a.Kind
			case a.Scale == api.SRatio:
				kindMul = b.Kind
			}
			sum := func(i int) *big.Rat { return new(big.Rat).Add(exponent(a.Dims[i]), exponent(b.Dims[i])) }
			want, ok := expected(sum, product(value(a.Factor), value(b.Factor)), kindMul)
			if !wanted {
				want, ok = api.Unit{}, false
			}
			got, err := unit.Mul(a, b)
			if check(t, "Mul "+shown(a)+" "+shown(b), got, err, want, ok) {
				counts["Mul"]++
			}
			less := func(i int) *big.Rat { return new(big.Rat).Sub(exponent(a.Dims[i]), exponent(b.Dims[i])) }
			want, ok = expected(less, ratio(value(a.Factor), value(b.Factor)), kindDiv)
			if !wanted {
				want, ok = api.Unit{}, false
			}
			got, err = unit.Div(a, b)
			if check(t, "Div "+shown(a)+" "+shown(b), got, err, want, ok) {
				counts["Div"]++
			}
		}
	}
	if counts["Mul"] < 800 || counts["Div"] < 800 {
		t.Errorf("only %v are units", counts)
	}
}

// P7.1: products and quotients of all pairs of exponents, in each place.
func TestAllExponents(t *testing.T) {
	l := powers()
	for k, p := range l {
		for m, q := range l {
			place := (k + m) % 7
			a, b := plain(none, "1", 1), plain(none, "1", 1)
			a.Dims[place], b.Dims[place] = p, q
			for name, f := range map[string]func(*big.Rat, *big.Rat) *big.Rat{"Mul": new(big.Rat).Add, "Div": new(big.Rat).Sub} {
				dims := func(i int) *big.Rat { return new(big.Rat).Set(f(exponent(a.Dims[i]), exponent(b.Dims[i]))) }
				want, ok := expected(dims, big.NewRat(1, 1), 0)
				got, err := unit.Mul(a, b)
				if name == "Div" {
					got, err = unit.Div(a, b)
				}
				check(t, name+" "+shown(a)+" "+shown(b), got, err, want, ok)
			}
		}
	}
}

// P7.1: Factors whose products and quotients have 200 digits, and 201. What would fit in lowest terms is refused.
func TestFactorsTooLarge(t *testing.T) {
	zeros := func(n int) string { return ten199[:n+1] }
	more, less := "1"+ten199[1:101], "1"+ten199[1:100]
	for _, c := range []struct {
		a, b     string
		mul, div bool
	}{
		{more, more, false, true}, {more, less, true, true}, {less, more, true, true},
		{more, "1/" + more, true, false}, {more, "1/" + less, true, true}, {"1/" + more, "1/" + more, false, true}, {"1/" + more, more, true, false}, {"1/" + less, more, true, true},
		{nines, "1", true, true}, {nines, nines, false, true}, {nines, "1/" + nines, true, false}, {"1/" + nines, "2", true, false}, {"1/" + ten199, "9", true, true},
		{zeros(150), zeros(49), true, true}, {zeros(150), zeros(50), false, true},
		{zeros(150) + "/7", "7/" + zeros(150), true, false},
	} {
		for _, dims := range [][7]api.Power{none, joule} {
			a, b := plain(dims, c.a, 0), plain(metre, c.b, 0)
			got, err := unit.Mul(a, b)
			if (err == api.OK) != c.mul || err != api.OK && (got != api.Unit{} || err != api.ErrUnit) {
				t.Errorf("Mul of %s and %s: %d", c.a, c.b, err)
			}
			got, err = unit.Div(a, b)
			if (err == api.OK) != c.div || err != api.OK && (got != api.Unit{} || err != api.ErrUnit) {
				t.Errorf("Div of %s and %s: %d", c.a, c.b, err)
			}
		}
	}
}

// raised returns x to the power p as Pow defines it: 1, multiplied by x as often as p says, and divided into 1 if p is
// negative; nil if that is too large.
func raised(x *big.Rat, p int) *big.Rat {
	result := big.NewRat(1, 1)
	for i := 0; i < p || i < -p; i++ {
		result = product(result, x)
	}
	if p < 0 && result != nil {
		result = ratio(big.NewRat(1, 1), result)
	}
	return result
}

// P7.1: all powers of some units.
func TestPow(t *testing.T) {
	count := 0
	l := someUnits()
	for _, factor := range []string{"2", "1" + ten199[1:17], "1/" + "1" + ten199[1:18], "1" + ten199[1:100], "1" + ten199[1:101] + "/3", "3/1" + ten199[1:67]} {
		l = append(l, plain(none, factor, 5), plain(metre, factor, 0))
	}
	for _, a := range l {
		for _, p := range powers() {
			factor, kind := big.NewRat(1, 1), 0
			if p.Den == 1 {
				factor = raised(value(a.Factor), p.Num)
			}
			if p == (api.Power{Num: 1, Den: 1}) {
				kind = a.Kind
			}
			dims := func(i int) *big.Rat { return new(big.Rat).Mul(exponent(a.Dims[i]), exponent(p)) }
			want, ok := expected(dims, factor, kind)
			if a.Scale == api.SAbsolute || p.Den != 1 && a.Factor != parsed("1") {
				want, ok = api.Unit{}, false
			}
			got, err := unit.Pow(a, p)
			if check(t, "Pow "+shown(a)+" "+exponent(p).String(), got, err, want, ok) {
				count++
			}
		}
		for _, p := range notPowers() {
			got, err := unit.Pow(a, p)
			wantRefused(t, "Pow "+shown(a), got, err)
		}
	}
	if count < 600 {
		t.Errorf("only %d powers are units", count)
	}
}

// P7.1, P7.6: sums and differences of all scales, with equal and with different Offsets.
func TestSumAndDifference(t *testing.T) {
	for _, dims := range [][7]api.Power{none, metre, kelvin, everyone} {
		for _, kind := range []int{0, 7, 100} {
			for _, factor := range []string{"1", "5/9", nines} {
				zero, other, relative := absolute(dims, factor, "0", kind), absolute(dims, factor, "5463/20", kind), plain(dims, factor, kind)
				for i, c := range []struct{ a, b, sum, difference api.Unit }{
					{zero, zero, api.Unit{}, relative}, {other, other, api.Unit{}, relative},
					{zero, other, api.Unit{}, api.Unit{}}, {other, zero, api.Unit{}, api.Unit{}},
					{zero, relative, zero, zero}, {other, relative, other, other},
					{relative, zero, zero, api.Unit{}}, {relative, other, other, api.Unit{}},
					{relative, relative, relative, relative},
				} {
					got, err := unit.Sum(c.a, c.b)
					check(t, "Sum "+strconv.Itoa(i), got, err, c.sum, c.sum != api.Unit{})
					got, err = unit.Difference(c.a, c.b)
					check(t, "Difference "+strconv.Itoa(i), got, err, c.difference, c.difference != api.Unit{})
				}
			}
		}
	}
}

// P7.6: of all pairs of some units, sums, differences and conversions are of those that belong together, and of no
// others; conversion never leads to other dimensions, another kind or another scale.
func TestNothingIsMixed(t *testing.T) {
	l, counts := someUnits(), [3]int{}
	for _, a := range l {
		for _, b := range l {
			same := a.Dims == b.Dims && a.Factor == b.Factor && a.Kind == b.Kind
			fromA, fromB := a.Scale == api.SAbsolute, b.Scale == api.SAbsolute
			for i, want := range []bool{
				same && !(fromA && fromB),
				same && !(fromB && !fromA) && !(fromA && fromB && a.Offset != b.Offset),
				a.Dims == b.Dims && a.Kind == b.Kind && a.Scale == b.Scale,
			} {
				var u api.Unit
				var err api.Errno
				switch i {
				case 0:
					u, err = unit.Sum(a, b)
				case 1:
					u, err = unit.Difference(a, b)
				case 2:
					_, err = unit.Convert(parsed("0"), a, b)
					want = want && !tooLarge(parsed("0"), a, b)
				}
				if want != (err == api.OK) || err != api.OK && (u != api.Unit{} || err != api.ErrUnit) {
					t.Errorf("%d of %s and %s: %d", i, shown(a), shown(b), err)
				}
				if i < 2 && err == api.OK && (u.Dims != a.Dims || u.Factor != a.Factor || u.Kind != a.Kind) {
					t.Errorf("%d of %s and %s: %s", i, shown(a), shown(b), shown(u))
				}
				if want {
					counts[i]++
				}
			}
		}
	}
	if counts[0] < 80 || counts[1] < 80 || counts[2] < 150 {
		t.Errorf("only %v", counts)
	}
}

// P7.1, P7.6: one thing that differs is enough for a sum or a difference to be refused.
func TestSumsRefused(t *testing.T) {
	a := plain(joule, "5/9", 7)
	for _, b := range []api.Unit{plain(joule, "5/9", 6), plain(joule, "5/9", 0), plain(joule, "9/5", 7), plain(joule, "5", 7), plain(joule, "4/9", 7), plain(exponents("2", "1", "-3"), "5/9", 7), plain(none, "5/9", 7)} {
		for _, pair := range [][2]api.Unit{{a, b}, {b, a}, {absolute(a.Dims, "5/9", "3", 7), b}, {b, absolute(a.Dims, "5/9", "3", 7)}} {
			got, err := unit.Sum(pair[0], pair[1])
			wantRefused(t, "Sum "+shown(pair[0])+" "+shown(pair[1]), got, err)
			got, err = unit.Difference(pair[0], pair[1])
			wantRefused(t, "Difference "+shown(pair[0])+" "+shown(pair[1]), got, err)
		}
	}
}

// P7.1, R1: what is no valid unit, in each place of each function.
func TestRefused(t *testing.T) {
	goods := []api.Unit{plain(none, "1", 0), plain(metre, "1", 0), plain(joule, "5/9", 7), absolute(kelvin, "1", "5463/20", 0)}
	for _, bad := range notUnits() {
		for name, f := range map[string]func(a, b api.Unit) (api.Unit, api.Errno){"Mul": unit.Mul, "Div": unit.Div, "Sum": unit.Sum, "Difference": unit.Difference} {
			for _, good := range append(goods, bad) {
				got, err := f(bad, good)
				wantRefused(t, name+" "+shown(bad), got, err)
				got, err = f(good, bad)
				wantRefused(t, name+" with "+shown(bad), got, err)
			}
		}
		for _, p := range append(notPowers(), powers()...) {
			got, err := unit.Pow(bad, p)
			wantRefused(t, "Pow "+shown(bad), got, err)
		}
		for _, good := range append(goods, bad) {
			for _, pair := range [][2]api.Unit{{bad, good}, {good, bad}} {
				v, err := unit.Convert(parsed("1"), pair[0], pair[1])
				if v != (api.Ratio{}) || err != api.ErrUnit {
					t.Fatalf("Convert %s = %v, %d", shown(bad), v, err)
				}
			}
		}
		if s, err := unit.Print(bad); s != "" || err != api.ErrUnit {
			t.Fatalf("Print %s = %q, %d", shown(bad), s, err)
		}
	}
}

// must returns a unit that must not be refused.
func must(t *testing.T) func(u api.Unit, err api.Errno) api.Unit {
	return func(u api.Unit, err api.Errno) api.Unit {
		t.Helper()
		if err != api.OK || !unit.Valid(u) {
			t.Fatalf("%s, %d", shown(u), err)
		}
		return u
	}
}

// alike reports whether a and b have the same Dims and Factor.
func alike(a api.Unit, b api.Unit) bool {
	return a.Dims == b.Dims && a.Factor == b.Factor
}

// smallUnits returns plain units whose products of three are units.
func smallUnits() []api.Unit {
	return []api.Unit{
		plain(none, "1", 0), plain(none, "1/100", 0), plain(none, "5/9", 3), plain(metre, "1", 0), plain(metre, "1000", 7), plain(exponents("-1", "1/2", "-1/2"), "1", 0), plain(exponents("1/2", "0", "3/2", "-3"), "127/5000", 0),
		plain(joule, "1", 7), plain(exponents("0", "0", "0", "0", "-2/3", "4", "1/3"), "1/3", 1), unit.Base(6),
	}
}

// P7.2: the laws of a group.
func TestGroup(t *testing.T) {
	m := must(t)
	l := smallUnits()
	one := plain(none, "1", 0)
	for _, a := range l {
		if !alike(m(unit.Mul(a, one)), a) || !alike(m(unit.Div(a, a)), one) || !alike(m(unit.Pow(a, api.Power{Num: -1, Den: 1})), m(unit.Div(one, a))) {
			t.Errorf("%s with 1", shown(a))
		}
		for _, b := range l {
			ab := m(unit.Mul(a, b))
			if ab != m(unit.Mul(b, a)) {
				t.Errorf("%s and %s do not commute", shown(a), shown(b))
			}
			if !alike(m(unit.Div(ab, b)), a) || !alike(m(unit.Mul(m(unit.Div(a, b)), b)), a) {
				t.Errorf("dividing by %s does not undo multiplying %s by it", shown(b), shown(a))
			}
			for _, c := range l {
				if !alike(m(unit.Mul(ab, c)), m(unit.Mul(a, m(unit.Mul(b, c))))) {
					t.Errorf("%s, %s and %s are not associative", shown(a), shown(b), shown(c))
				}
			}
		}
	}
}

// P7.2: commutative without errors, also where there is one.
func TestCommutative(t *testing.T) {
	l := someUnits()
	for _, a := range l {
		for _, b := range l {
			ab, errAB := unit.Mul(a, b)
			ba, errBA := unit.Mul(b, a)
			if ab != ba || errAB != errBA {
				t.Errorf("%s and %s do not commute", shown(a), shown(b))
			}
		}
	}
}

// P7.2: powers add up.
func TestPowersAddUp(t *testing.T) {
	count := 0
	for _, a := range smallUnits() {
		raised := map[api.Power]api.Unit{}
		for _, p := range powers() {
			if u, err := unit.Pow(a, p); err == api.OK {
				raised[p] = u
			}
		}
		for p, left := range raised {
			for q, right := range raised {
				sum := new(big.Rat).Add(exponent(p), exponent(q))
				whole, ok := raised[api.Power{Num: int(sum.Num().Int64()), Den: int(sum.Denom().Int64())}]
				if !ok {
					continue
				}
				count++
				product, err := unit.Mul(left, right)
				if err != api.OK || !alike(product, whole) {
					t.Errorf("%s to the powers %v and %v", shown(a), p, q)
				}
			}
		}
	}
	if count < 2000 {
		t.Errorf("only %d", count)
	}
}

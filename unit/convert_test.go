package unit_test

import (
	"math/big"
	"math/rand"
	"testing"

	"yardstick/api"
	"yardstick/rational"
	"yardstick/unit"
)

// total returns x + y as rational.Add has it, or nil if that, or x, is too large.
func total(x *big.Rat, y *big.Rat) *big.Rat {
	if x == nil {
		return nil
	}
	left, right := new(big.Int).Mul(x.Num(), y.Denom()), new(big.Int).Mul(y.Num(), x.Denom())
	if !fits(left) || !fits(right) {
		return nil
	}
	return quotient(new(big.Int).Add(left, right), new(big.Int).Mul(x.Denom(), y.Denom()))
}

// converted returns what Convert is defined to return for valid arguments that belong together; nil if it is too large.
func converted(v api.Ratio, from api.Unit, to api.Unit) *big.Rat {
	x := product(value(v), value(from.Factor))
	x = total(x, value(from.Offset))
	x = total(x, new(big.Rat).Neg(value(to.Offset)))
	return ratio(x, value(to.Factor))
}

func tooLarge(v api.Ratio, from api.Unit, to api.Unit) bool {
	return converted(v, from, to) == nil
}

// checkConvert checks a conversion between units that belong together, and reports whether it was refused.
func checkConvert(t *testing.T, v api.Ratio, from api.Unit, to api.Unit) bool {
	t.Helper()
	want := converted(v, from, to)
	got, err := unit.Convert(v, from, to)
	if want == nil {
		if got != (api.Ratio{}) || err != api.ErrUnit {
			t.Fatalf("Convert %v from %s to %s = %v, %d", v, shown(from), shown(to), got, err)
		}
		return true
	}
	if got != written(want) || err != api.OK {
		t.Fatalf("Convert %v from %s to %s = %v, %d; want %s", v, shown(from), shown(to), got, err, want)
	}
	return false
}

// convertible reports whether the units belong together.
func convertible(a api.Unit, b api.Unit) bool {
	return a.Dims == b.Dims && a.Kind == b.Kind && a.Scale == b.Scale
}

// P7.1: conversions between all pairs of some units.
func TestConvert(t *testing.T) {
	var values []api.Ratio
	for _, s := range []string{"0", "1", "-1", "25", "-40", "1/3", "-22/7", "1" + ten199[1:100], "1/" + nines, nines} {
		values = append(values, parsed(s))
	}
	l, made, refused := someUnits(), 0, 0
	for _, a := range l {
		for _, b := range l {
			for _, v := range values {
				if convertible(a, b) {
					if checkConvert(t, v, a, b) {
						refused++
					} else {
						made++
					}
					continue
				}
				if got, err := unit.Convert(v, a, b); got != (api.Ratio{}) || err != api.ErrUnit {
					t.Fatalf("Convert %v from %s to %s = %v, %d", v, shown(a), shown(b), got, err)
				}
			}
		}
	}
	if made < 1000 || refused < 100 {
		t.Errorf("%d made, %d refused", made, refused)
	}
}

// P7.1: known conversions.
func TestConvertKnown(t *testing.T) {
	celsius, fahrenheit, absoluteKelvin := absolute(kelvin, "1", "5463/20", 0), absolute(kelvin, "5/9", "45967/180", 0), absolute(kelvin, "1", "0", 0)
	for _, c := range []struct {
		v        string
		from, to api.Unit
		want     string
	}{
		{"0", celsius, absoluteKelvin, "5463/20"}, {"0", absoluteKelvin, celsius, "-5463/20"}, {"100", celsius, fahrenheit, "212"}, {"-40", fahrenheit, celsius, "-40"}, {"0", absoluteKelvin, fahrenheit, "-45967/100"},
		{"3", plain(metre, "1000", 0), plain(metre, "1", 0), "3000"}, {"3", plain(metre, "1", 0), plain(metre, "1000", 0), "3/1000"}, {"10", plain(metre, "127/5000", 2), plain(metre, "1/100", 2), "127/5"},
		{"9", plain(kelvin, "5/9", 0), unit.Base(4), "5"}, {"1/4", plain(none, "1", 0), plain(none, "1/100", 0), "25"}, {"25", plain(none, "1/100", 0), plain(none, "1", 0), "1/4"}, {"2", plain(none, "3", 9), plain(none, "6", 9), "1"},
		{"5", absolute(none, "1", "2", 0), absolute(none, "2", "-1", 0), "4"},
	} {
		got, err := unit.Convert(parsed(c.v), c.from, c.to)
		if got != parsed(c.want) || err != api.OK {
			t.Errorf("%s of %s are %v, %d of %s; want %s", c.v, shown(c.from), got, err, shown(c.to), c.want)
		}
	}
}

// P7.1: conversions of which each step alone is too large, and of which it is just not.
func TestConvertTooLarge(t *testing.T) {
	tens := func(n int) string { return ten199[:n+1] }
	position := func(factor string, offset string) api.Unit { return absolute(kelvin, factor, offset, 0) }
	for i, c := range []struct {
		v        string
		from, to api.Unit
		refused  bool
	}{
		{tens(150), plain(metre, tens(49), 0), plain(metre, tens(49), 0), false},
		{tens(150), plain(metre, tens(50), 0), plain(metre, tens(50), 0), true},
		{nines, plain(metre, "2", 0), plain(metre, "2", 0), true},
		{"1/" + tens(150), plain(metre, "1/"+tens(50), 0), plain(metre, "1", 0), true},
		{tens(99), position("1", "1/"+tens(100)), position("1", "1"), false},
		{tens(100), position("1", "1/"+tens(100)), position("1", "1"), true},
		{nines, position("1", "1"), position("1", "1"), true},
		{nines, position("1", "-1"), position("1", "-1"), false},
		{tens(99), position("1", "1"), position("1", "1/"+tens(100)), false},
		{tens(100), position("1", "1"), position("1", "1/"+tens(100)), true},
		{"-" + nines, position("1", "0"), position("1", "1"), true},
		{"-" + nines, position("1", "0"), position("1", "-1"), false},
		{tens(99), plain(metre, "1", 0), plain(metre, "1/"+tens(100), 0), false},
		{tens(100), plain(metre, "1", 0), plain(metre, "1/"+tens(100), 0), true},
		{"1/" + tens(100), plain(none, "1", 0), plain(none, tens(99), 0), false},
		{"1/" + tens(100), plain(none, "1", 0), plain(none, tens(100), 0), true},
	} {
		if got := checkConvert(t, parsed(c.v), c.from, c.to); got != c.refused {
			t.Errorf("conversion %d is refused: %t", i, got)
		}
	}
}

// P7.1: what cannot be converted because of one thing, and what is no value.
func TestConvertRefused(t *testing.T) {
	a := plain(joule, "5/9", 7)
	for _, b := range []api.Unit{plain(joule, "5/9", 6), plain(joule, "5/9", 0), absolute(joule, "5/9", "0", 7), plain(exponents("2", "1", "-3"), "5/9", 7), plain(none, "5/9", 7), plain(none, "5/9", 0)} {
		for _, pair := range [][2]api.Unit{{a, b}, {b, a}} {
			if got, err := unit.Convert(parsed("3"), pair[0], pair[1]); got != (api.Ratio{}) || err != api.ErrUnit {
				t.Errorf("Convert from %s to %s = %v, %d", shown(pair[0]), shown(pair[1]), got, err)
			}
		}
	}
	for _, bad := range notFractions() {
		for _, u := range []api.Unit{a, plain(none, "1", 0), absolute(kelvin, "1", "5463/20", 0)} {
			if got, err := unit.Convert(bad, u, u); got != (api.Ratio{}) || err != api.ErrUnit {
				t.Errorf("Convert in %s = %v, %d", shown(u), got, err)
			}
		}
	}
}

// randomFraction returns a fraction with small parts, of either sign or 0.
func randomFraction(random *rand.Rand) api.Ratio {
	return written(big.NewRat(random.Int63n(2001)-1000, 1+random.Int63n(60)))
}

// randomUnit returns a unit with the Dims and the Kind of u, and another Factor; with another Offset, if u is absolute.
func randomUnit(random *rand.Rand, u api.Unit) api.Unit {
	u.Factor = written(big.NewRat(1+random.Int63n(500), 1+random.Int63n(60)))
	if u.Scale == api.SAbsolute {
		u.Offset = randomFraction(random)
	}
	return u
}

// calculated returns a fraction that must not be refused.
func calculated(t *testing.T) func(r api.Ratio, err api.Errno) api.Ratio {
	return func(r api.Ratio, err api.Errno) api.Ratio {
		t.Helper()
		if err != api.OK || !rational.Valid(r) {
			t.Fatalf("%v, %d", r, err)
		}
		return r
	}
}

// P7.3: converting before or after multiplying, dividing and raising to a power.
func TestConvertProducts(t *testing.T) {
	random := rand.New(rand.NewSource(1))
	m, c := must(t), calculated(t)
	for range 30 {
		for _, u := range smallUnits() {
			for _, w := range smallUnits() {
				from, with, to, into := randomUnit(random, u), randomUnit(random, w), randomUnit(random, u), randomUnit(random, w)
				x, y := randomFraction(random), randomFraction(random)
				before := c(rational.Mul(c(unit.Convert(x, from, to)), c(unit.Convert(y, with, into))))
				after := c(unit.Convert(c(rational.Mul(x, y)), m(unit.Mul(from, with)), m(unit.Mul(to, into))))
				if before != after {
					t.Fatalf("%v %s times %v %s", x, shown(from), y, shown(with))
				}
				if y.Num == "0" {
					continue
				}
				before = c(rational.Div(c(unit.Convert(x, from, to)), c(unit.Convert(y, with, into))))
				after = c(unit.Convert(c(rational.Div(x, y)), m(unit.Div(from, with)), m(unit.Div(to, into))))
				if before != after {
					t.Fatalf("%v %s by %v %s", x, shown(from), y, shown(with))
				}
			}
			for _, n := range []int{-3, -2, -1, 0, 1, 2, 3} {
				from, to, x := randomUnit(random, u), randomUnit(random, u), randomFraction(random)
				if x.Num == "0" {
					continue
				}
				raise := func(r api.Ratio) api.Ratio { return written(raised(value(r), n)) }
				p := api.Power{Num: n, Den: 1}
				if raise(c(unit.Convert(x, from, to))) != c(unit.Convert(raise(x), m(unit.Pow(from, p)), m(unit.Pow(to, p)))) {
					t.Fatalf("%v %s to the power %d", x, shown(from), n)
				}
			}
		}
	}
}

// P7.4: converting before or after adding and subtracting, on absolute scales and on others.
func TestConvertSums(t *testing.T) {
	random := rand.New(rand.NewSource(2))
	m, c := must(t), calculated(t)
	for _, u := range smallUnits() {
		for range 60 {
			position := u
			position.Scale = api.SAbsolute
			from, to := randomUnit(random, position), randomUnit(random, position)
			step, stride := m(unit.Difference(from, from)), m(unit.Difference(to, to))
			if step.Factor != from.Factor || step.Scale != u.Scale || step.Offset != parsed("0") {
				t.Fatalf("the difference of %s and itself is %s", shown(from), shown(step))
			}
			for _, pair := range [][4]api.Unit{{from, step, to, stride}, {step, from, stride, to}, {step, step, stride, stride}} {
				x, y := randomFraction(random), randomFraction(random)
				before := c(rational.Add(c(unit.Convert(x, pair[0], pair[2])), c(unit.Convert(y, pair[1], pair[3]))))
				after := c(unit.Convert(c(rational.Add(x, y)), m(unit.Sum(pair[0], pair[1])), m(unit.Sum(pair[2], pair[3]))))
				if before != after {
					t.Fatalf("%v %s and %v %s", x, shown(pair[0]), y, shown(pair[1]))
				}
			}
			for _, pair := range [][4]api.Unit{{from, from, to, to}, {from, step, to, stride}, {step, step, stride, stride}} {
				x, y := randomFraction(random), randomFraction(random)
				before := c(rational.Sub(c(unit.Convert(x, pair[0], pair[2])), c(unit.Convert(y, pair[1], pair[3]))))
				after := c(unit.Convert(c(rational.Sub(x, y)), m(unit.Difference(pair[0], pair[1])), m(unit.Difference(pair[2], pair[3]))))
				if before != after {
					t.Fatalf("%v %s less %v %s", x, shown(pair[0]), y, shown(pair[1]))
				}
			}
		}
	}
}

// P7.5: converting back, and by way of a third unit, makes no difference; the order of values is kept.
func TestConvertBack(t *testing.T) {
	random := rand.New(rand.NewSource(3))
	c := calculated(t)
	for _, u := range smallUnits() {
		for i := range 200 {
			u := u
			if i%2 == 0 {
				u.Scale = api.SAbsolute
			}
			from, by, to := randomUnit(random, u), randomUnit(random, u), randomUnit(random, u)
			x, y := randomFraction(random), randomFraction(random)
			there := c(unit.Convert(x, from, to))
			if c(unit.Convert(there, to, from)) != x || c(unit.Convert(x, from, from)) != x {
				t.Fatalf("%v from %s to %s and back", x, shown(from), shown(to))
			}
			if c(unit.Convert(c(unit.Convert(x, from, by)), by, to)) != there {
				t.Fatalf("%v from %s by %s to %s", x, shown(from), shown(by), shown(to))
			}
			if rational.Compare(there, c(unit.Convert(y, from, to))) != rational.Compare(x, y) {
				t.Fatalf("%v and %v from %s to %s", x, y, shown(from), shown(to))
			}
		}
	}
}

package rational_test

import (
	"math/big"
	"math/rand"
	"testing"

	"yardstick/api"
	"yardstick/rational"
)

// operation is one of the four operations, with the integers that its definition names: all of them, and in the end the
// numerator and the denominator that are reduced.
type operation struct {
	name  string
	run   func(api.Ratio, api.Ratio) (api.Ratio, api.Errno)
	parts func(a, b *big.Rat) []*big.Int
}

func operations() []operation {
	sum := func(combine func(x, y *big.Int) *big.Int) func(a, b *big.Rat) []*big.Int {
		return func(a, b *big.Rat) []*big.Int {
			left, right := times(a.Num(), b.Denom()), times(b.Num(), a.Denom())
			return []*big.Int{left, right, combine(left, right), times(a.Denom(), b.Denom())}
		}
	}
	return []operation{
		{"Add", rational.Add, sum(plus)},
		{"Sub", rational.Sub, sum(minus)},
		{"Mul", rational.Mul, func(a, b *big.Rat) []*big.Int {
			return []*big.Int{times(a.Num(), b.Num()), times(a.Denom(), b.Denom())}
		}},
		{"Div", rational.Div, func(a, b *big.Rat) []*big.Int {
			return []*big.Int{times(a.Num(), b.Denom()), times(a.Denom(), b.Num())}
		}},
	}
}

// checkOperation checks a result against the definition, and reports whether it was refused.
func checkOperation(t *testing.T, o operation, a, b api.Ratio) bool {
	t.Helper()
	call := shown(o.name, a, b)
	parts := o.parts(value(a), value(b))
	n, d := parts[len(parts)-2], parts[len(parts)-1]
	refused := d.Sign() == 0
	for _, part := range parts {
		refused = refused || !fits(part)
	}
	r, err := o.run(a, b)
	if refused {
		wantRefused(t, call, r, err)
	} else {
		wantFraction(t, call, r, err, fraction(n, d))
	}
	return refused
}

// P4.1, P4.2: the four operations, as defined, of all pairs of some fractions.
func TestOperations(t *testing.T) {
	l := someFractions()
	for _, o := range operations() {
		for i, a := range l {
			for k, b := range l {
				if i < 40 || k < 40 || (i+k)%7 == 0 {
					checkOperation(t, o, a, b)
				}
			}
		}
	}
	random := rand.New(rand.NewSource(3))
	for range 4000 {
		a, b := randomFraction(random, 120), randomFraction(random, 120)
		for _, o := range operations() {
			checkOperation(t, o, a, b)
		}
	}
}

// P4.1: all pairs of fractions with small parts.
func TestOperationsSmall(t *testing.T) {
	var l []api.Ratio
	for n := int64(-6); n <= 6; n++ {
		for d := int64(1); d <= 6; d++ {
			if r := fraction(big.NewInt(n), big.NewInt(d)); number(r.Den).Int64() == d {
				l = append(l, r)
			}
		}
	}
	for _, a := range l {
		for _, b := range l {
			for _, o := range operations() {
				if refused := checkOperation(t, o, a, b); refused != (o.name == "Div" && b.Num == "0") {
					t.Errorf("%s is refused: %t", shown(o.name, a, b), refused)
				}
			}
		}
	}
}

// P4.1: each integer that a definition names, with 200 digits and with 201, while all others of that call fit.
// What would fit in lowest terms is refused nevertheless.
func TestOperationsTooLarge(t *testing.T) {
	ten, seven := func(n int) string { return power(n).String() }, big.NewInt(7)
	sevens := new(big.Int).Exp(seven, big.NewInt(59), nil).String()
	more := times(number(sevens), seven).String()
	nines := minus(power(200), big.NewInt(1)).String()
	for i, c := range []struct {
		name, a, b string
		refused    bool
	}{
		{"Add", "8" + ten(199)[1:], ten(199), false}, {"Add", "9" + ten(199)[1:], ten(199), true}, {"Add", nines, "1", true}, {"Add", "-" + nines, "-1", true}, {"Add", nines, "-1", false},
		{"Add", ten(99), "-1/" + ten(100), false}, {"Add", ten(100), "-1/" + ten(100), true},
		{"Add", "-1/" + ten(100), ten(99), false}, {"Add", "-1/" + ten(100), ten(100), true},
		{"Add", "1/" + ten(99), "1/" + ten(100), false}, {"Add", "1/" + ten(100), "1/" + ten(100), true}, {"Add", "-1/" + ten(100), "1/" + ten(100), true},
		{"Sub", "-8" + ten(199)[1:], ten(199), false}, {"Sub", "-9" + ten(199)[1:], ten(199), true}, {"Sub", nines, "-1", true}, {"Sub", "-" + nines, "1", true}, {"Sub", nines, nines, false},
		{"Sub", ten(99), "1/" + ten(100), false}, {"Sub", ten(100), "1/" + ten(100), true},
		{"Sub", "1/" + ten(100), ten(99), false}, {"Sub", "1/" + ten(100), ten(100), true},
		{"Sub", "1/" + ten(99), "1/" + ten(100), false}, {"Sub", "1/" + ten(100), "1/" + ten(100), true},
		{"Mul", ten(99), ten(100), false}, {"Mul", ten(100), ten(100), true}, {"Mul", "-" + ten(100), ten(100), true}, {"Mul", "-" + ten(99), "-" + ten(100), false},
		{"Mul", "1/" + ten(99), "1/" + ten(100), false}, {"Mul", "1/" + ten(100), "1/" + ten(100), true}, {"Mul", "0", "1/" + nines, false}, {"Mul", nines, "1/" + nines, false},
		{"Mul", ten(149) + "/" + sevens, more + "/" + ten(149), false}, {"Mul", ten(150) + "/" + sevens, more + "/" + ten(150), true},
		{"Div", ten(99), "1/" + ten(100), false}, {"Div", ten(100), "1/" + ten(100), true}, {"Div", "-" + ten(99), "-1/" + ten(100), false}, {"Div", "-" + ten(100), "-1/" + ten(100), true},
		{"Div", "1/" + ten(99), ten(100), false}, {"Div", "1/" + ten(100), ten(100), true}, {"Div", "1/" + ten(100), "-" + ten(100), true}, {"Div", nines, nines, false},
		{"Div", ten(149) + "/" + sevens, ten(149) + "/" + more, false}, {"Div", ten(150) + "/" + sevens, ten(150) + "/" + more, true},
	} {
		for _, o := range operations() {
			if o.name == c.name && checkOperation(t, o, parsed(c.a), parsed(c.b)) != c.refused {
				t.Errorf("case %d: %s is refused: %t", i, c.name, !c.refused)
			}
		}
	}
}

// P4.1: what is no valid fraction, in each place, and division by 0.
func TestOperationsRefused(t *testing.T) {
	good := []api.Ratio{parsed("0"), parsed("1"), parsed("-2/3"), fraction(power(199), big.NewInt(7))}
	for _, o := range operations() {
		for _, bad := range notFractions() {
			for _, other := range append(good, bad) {
				r, err := o.run(bad, other)
				wantRefused(t, shown(o.name, bad, other), r, err)
				r, err = o.run(other, bad)
				wantRefused(t, shown(o.name, other, bad), r, err)
			}
		}
	}
	for _, a := range someFractions() {
		r, err := rational.Div(a, parsed("0"))
		wantRefused(t, shown("Div by 0", a), r, err)
	}
}

// must returns a result that must not be refused.
func must(t *testing.T, f func(api.Ratio, api.Ratio) (api.Ratio, api.Errno), a, b api.Ratio) api.Ratio {
	t.Helper()
	r, err := f(a, b)
	if err != api.OK || !rational.Valid(r) {
		t.Fatalf("%s = %v, %d", shown("", a, b), r, err)
	}
	return r
}

// P4.3: the laws of a field.
func TestLaws(t *testing.T) {
	random := rand.New(rand.NewSource(4))
	zero, one := parsed("0"), parsed("1")
	for i := range 2000 {
		digits := 2 + i%24
		a, b, c := randomFraction(random, digits), randomFraction(random, digits), randomFraction(random, digits)
		if i%50 == 0 {
			a = zero
		}
		for _, f := range []func(api.Ratio, api.Ratio) (api.Ratio, api.Errno){rational.Add, rational.Mul} {
			if must(t, f, a, b) != must(t, f, b, a) {
				t.Fatalf("%v and %v do not commute", a, b)
			}
			if must(t, f, must(t, f, a, b), c) != must(t, f, a, must(t, f, b, c)) {
				t.Fatalf("%v, %v and %v are not associative", a, b, c)
			}
		}
		sum := must(t, rational.Add, b, c)
		if must(t, rational.Mul, a, sum) != must(t, rational.Add, must(t, rational.Mul, a, b), must(t, rational.Mul, a, c)) {
			t.Fatalf("%v is not distributive over %v and %v", a, b, c)
		}
		if must(t, rational.Sub, sum, c) != b || must(t, rational.Add, must(t, rational.Sub, b, c), c) != b {
			t.Fatalf("subtracting %v does not undo adding it to %v", c, b)
		}
		if must(t, rational.Div, must(t, rational.Mul, a, c), c) != a || must(t, rational.Mul, must(t, rational.Div, a, c), c) != a {
			t.Fatalf("dividing by %v does not undo multiplying it by %v", c, a)
		}
		if must(t, rational.Add, a, zero) != a || must(t, rational.Mul, a, one) != a || must(t, rational.Sub, a, a) != zero {
			t.Fatalf("%v with 0 and 1", a)
		}
	}
}

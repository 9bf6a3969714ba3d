package enclosure_test

import (
	"math/big"
	"math/rand"
	"testing"

	"yardstick/api"
	"yardstick/enclosure"
)

// corner is an end of a and one of b, each of which is the upper one if it is true.
type corner struct{ a, b bool }

// operation is one of the four operations: which ends its definition computes with, what it makes of two fractions, and
// the integers that package rational names for that.
type operation struct {
	name    string
	run     func(a, b api.Interval) (api.Interval, api.Errno)
	corners []corner
	exact   func(z, x, y *big.Rat) *big.Rat
	parts   func(x, y *big.Rat) []*big.Int
}

func operations() []operation {
	all := []corner{{false, false}, {false, true}, {true, false}, {true, true}}
	sums := func(combine func(z, x, y *big.Int) *big.Int) func(x, y *big.Rat) []*big.Int {
		return func(x, y *big.Rat) []*big.Int {
			left, right := product(x.Num(), y.Denom()), product(y.Num(), x.Denom())
			return []*big.Int{left, right, combine(new(big.Int), left, right), product(x.Denom(), y.Denom())}
		}
	}
	return []operation{
		{"Add", enclosure.Add, []corner{{false, false}, {true, true}}, (*big.Rat).Add, sums((*big.Int).Add)},
		{"Sub", enclosure.Sub, []corner{{false, true}, {true, false}}, (*big.Rat).Sub, sums((*big.Int).Sub)},
		{"Mul", enclosure.Mul, all, (*big.Rat).Mul, func(x, y *big.Rat) []*big.Int {
			return []*big.Int{product(x.Num(), y.Num()), product(x.Denom(), y.Denom())}
		}},
		{"Div", enclosure.Div, all, (*big.Rat).Quo, func(x, y *big.Rat) []*big.Int {
			return []*big.Int{product(x.Num(), y.Denom()), product(x.Denom(), y.Num())}
		}},
	}
}

func product(x, y *big.Int) *big.Int { return new(big.Int).Mul(x, y) }

// end returns the upper or the lower end of x.
func end(x api.Interval, upper bool) *big.Rat {
	if upper {
		return value(x.Hi)
	}
	return value(x.Lo)
}

// has reports whether x contains r.
func has(x api.Interval, r *big.Rat) bool {
	return value(x.Lo).Cmp(r) <= 0 && r.Cmp(value(x.Hi)) <= 0
}

// expected returns the result that the definition asks for, or false if it is an error.
func (o operation) expected(a, b api.Interval) (api.Interval, bool) {
	if o.name == "Div" && has(b, new(big.Rat)) {
		return api.Interval{}, false
	}
	var lo, hi *big.Rat
	for _, c := range o.corners {
		x, y := end(a, c.a), end(b, c.b)
		if !fit(o.parts(x, y)...) {
			return api.Interval{}, false
		}
		r := o.exact(new(big.Rat), x, y)
		if lo == nil || r.Cmp(lo) < 0 {
			lo = r
		}
		if hi == nil || r.Cmp(hi) > 0 {
			hi = r
		}
	}
	return span(lo, hi), true
}

// check checks a result against the definition, and reports whether it was refused.
func (o operation) check(t *testing.T, a, b api.Interval) bool {
	t.Helper()
	got, err := o.run(a, b)
	want, ok := o.expected(a, b)
	if ok {
		wantInterval(t, shown(o.name, a, b), got, err, want)
	} else {
		wantRefused(t, shown(o.name, a, b), got, err)
	}
	return !ok
}

// P5.1: all pairs of small intervals, with ends of all signs; only a divisor with 0 is refused.
func TestOperationsSmall(t *testing.T) {
	for _, o := range operations() {
		for _, a := range smallIntervals() {
			for _, b := range smallIntervals() {
				if refused := o.check(t, a, b); refused != (o.name == "Div" && has(b, new(big.Rat))) {
					t.Errorf("%s is refused: %t", shown(o.name, a, b), refused)
				}
			}
		}
	}
}

// P5.1: intervals with parts of any length, some of which are too long.
func TestOperationsLong(t *testing.T) {
	source := rand.New(rand.NewSource(1))
	refused := 0
	for i := range 600 {
		digits := 1 + i%120
		a, b := random(source, digits), random(source, digits)
		for _, o := range operations() {
			if o.check(t, a, b) {
				refused++
			}
		}
	}
	if refused < 100 || refused > 2000 {
		t.Errorf("%d refused: the intervals do not test both", refused)
	}
}

// long returns an interval without 0, only one end of which has a long part: its denominator, or its numerator.
func long(upper bool, denominator bool, digits int) api.Interval {
	switch p := ten(digits - 1); {
	case upper && denominator:
		return interval("-1 -1/" + p)
	case upper:
		return interval("1 " + p)
	case denominator:
		return interval("1/" + p + " 1")
	default:
		return interval("-" + p + " -1")
	}
}

// P5.1: products of 200 digits and of 201, of each pair of ends. What is too large only in a pair of ends that the
// definition does not use is not refused, and what the definition uses is, even if it is no end of the result.
func TestOperationsTooLarge(t *testing.T) {
	for _, o := range operations() {
		for bits := range 16 {
			upperA, upperB, denominatorA, denominatorB := bits&1 != 0, bits&2 != 0, bits&4 != 0, bits&8 != 0
			uses := false
			for _, c := range o.corners {
				uses = uses || c == corner{upperA, upperB}
			}
			switch o.name {
			case "Add", "Sub":
				uses = uses && (denominatorA || denominatorB)
			case "Mul":
				uses = uses && denominatorA == denominatorB
			case "Div":
				uses = uses && denominatorA != denominatorB
			}
			for digits, refused := range map[int]bool{100: false, 101: uses} {
				a, b := long(upperA, denominatorA, 101), long(upperB, denominatorB, digits)
				if o.check(t, a, b) != refused {
					t.Errorf("%s is refused: %t", shown(o.name, a, b), !refused)
				}
				a, b = long(upperA, denominatorA, digits), long(upperB, denominatorB, 101)
				if o.check(t, a, b) != refused {
					t.Errorf("%s is refused: %t", shown(o.name, a, b), !refused)
				}
			}
		}
	}
}

// P5.1: sums and differences of 200 digits and of 201, of the lower ends only, and of the upper ends only; a product that
// is too large between those that are not; and what would fit in lowest terms.
func TestOperationsTooLargeSpecial(t *testing.T) {
	eight, nine, tenth := "8"+ten(199)[1:], "9"+ten(199)[1:], ten(199)
	for i, c := range []struct {
		name, a, b string
		refused    bool
	}{
		{"Add", "0 " + eight, "0 " + tenth, false}, {"Add", "0 " + nine, "0 " + tenth, true},
		{"Add", "-" + eight + " 0", "-" + tenth + " 0", false}, {"Add", "-" + nine + " 0", "-" + tenth + " 0", true},
		{"Sub", "0 " + eight, "-" + tenth + " 0", false}, {"Sub", "0 " + nine, "-" + tenth + " 0", true},
		{"Sub", "-" + eight + " 0", "0 " + tenth, false}, {"Sub", "-" + nine + " 0", "0 " + tenth, true},
		{"Add", "-" + nine + " " + nine, "0", false}, {"Sub", nine, nine, false},
		{"Mul", "-1 1/" + ten(100), "-1/" + ten(100) + " 5", true}, {"Mul", "-1 1/" + ten(100), "-1/" + ten(99) + " 5", false},
		{"Mul", ten(100) + "/7", "7/" + ten(100), false}, {"Mul", ten(150) + "/7", ten(50), true}, {"Mul", "49/" + ten(150), "11/" + ten(50), true},
		{"Mul", "0", "-" + nine + " " + nine, false}, {"Mul", "0", "1/" + nine + " 1", false},
		{"Div", "0 1", "1/" + nine + " " + nine, false}, {"Div", "0 10", "1/" + nine + " " + nine, true}, {"Div", "7/" + ten(100), "77 " + ten(100) + "/3", true},
	} {
		for _, o := range operations() {
			if o.name == c.name && o.check(t, interval(c.a), interval(c.b)) != c.refused {
				t.Errorf("case %d: %s is refused: %t", i, c.name, !c.refused)
			}
		}
	}
}

// P5.1: division by what contains 0, inside or as an end, and by what comes as close as it can.
func TestDivByZero(t *testing.T) {
	least := "1/" + ten(199)
	for _, a := range []string{"0", "1", "-1 1", "2/3 5", "-7 0"} {
		for b, refused := range map[string]bool{
			"0": true, "0 1": true, "-1 0": true, "-1 1": true, "0 " + least: true, "-" + least + " 0": true, "-" + least + " " + least: true, "-" + ten(199) + " " + least: true,
			least: false, least + " 1": false, "-1 -" + least: false, "-" + least: false,
		} {
			o := operations()[3]
			if o.check(t, interval(a), interval(b)) != refused {
				t.Errorf("%s is refused: %t", shown(o.name, interval(a), interval(b)), !refused)
			}
		}
	}
}

// inside returns a fraction that x contains: an end, 0 if it contains that, or any.
func inside(source *rand.Rand, x api.Interval) *big.Rat {
	switch zero := new(big.Rat); {
	case source.Intn(4) == 0:
		return value(x.Lo)
	case source.Intn(4) == 0:
		return value(x.Hi)
	case source.Intn(4) == 0 && has(x, zero):
		return zero
	}
	part := big.NewRat(source.Int63n(1000), 1000)
	width := new(big.Rat).Sub(value(x.Hi), value(x.Lo))
	return part.Add(part.Mul(part, width), value(x.Lo))
}

// withResults calls check with random arguments of each operation, and the result, if there is one.
func withResults(seed int64, check func(source *rand.Rand, o operation, a, b, x api.Interval)) {
	source := rand.New(rand.NewSource(seed))
	for i := range 1500 {
		digits := 1 + i%30
		a, b := random(source, digits), random(source, digits)
		for _, o := range operations() {
			if x, err := o.run(a, b); err == api.OK {
				check(source, o, a, b, x)
			}
		}
	}
}

// P5.2: a result contains what the operation makes of any fractions of its arguments.
func TestContainment(t *testing.T) {
	withResults(2, func(source *rand.Rand, o operation, a, b, x api.Interval) {
		for range 4 {
			r, s := inside(source, a), inside(source, b)
			if exact := o.exact(new(big.Rat), r, s); !has(x, exact) || !enclosure.Contains(x, ratio(exact)) {
				t.Fatalf("%s = %s does not contain that of %v and %v", shown(o.name, a, b), shown("", x), r, s)
			}
		}
	})
}

// P5.3: both ends of a result are what the operation makes of fractions of the arguments.
func TestNoMore(t *testing.T) {
	withResults(3, func(_ *rand.Rand, o operation, a, b, x api.Interval) {
		reached := map[api.Ratio]bool{}
		for _, r := range []*big.Rat{value(a.Lo), value(a.Hi)} {
			for _, s := range []*big.Rat{value(b.Lo), value(b.Hi)} {
				reached[ratio(o.exact(new(big.Rat), r, s))] = true
			}
		}
		if !reached[x.Lo] || !reached[x.Hi] {
			t.Fatalf("%s = %s is too wide", shown(o.name, a, b), shown("", x))
		}
	})
}

// part returns an interval within x.
func part(source *rand.Rand, x api.Interval) api.Interval {
	lo, hi := inside(source, x), inside(source, x)
	if lo.Cmp(hi) > 0 {
		lo, hi = hi, lo
	}
	return span(lo, hi)
}

// P5.4: what lies within other intervals has results within the results for these.
func TestNarrower(t *testing.T) {
	source := rand.New(rand.NewSource(4))
	for i := range 800 {
		digits := 1 + i%20
		a, b := random(source, digits), random(source, digits)
		for name, f := range functions() {
			wide, err := f(a, b)
			if err != api.OK {
				continue
			}
			partA, partB := part(source, a), part(source, b)
			narrow, err := f(partA, partB)
			if name == "Meet" && err == api.ErrEnclosure {
				continue
			}
			if err != api.OK || !enclosure.Within(narrow, wide) {
				t.Fatalf("%s = %s, %d; not within %s", shown(name, partA, partB), shown("", narrow), err, shown(name, a, b))
			}
		}
	}
}

package unit_test

import (
	"math"
	"math/big"
	"strconv"
	"strings"
	"testing"
	"unsafe"

	"yardstick/api"
	"yardstick/rational"
	"yardstick/unit"
)

// parsed returns the fraction that s stands for.
func parsed(s string) api.Ratio {
	r, err := rational.Parse(s)
	if err != api.OK {
		panic("no fraction: " + s)
	}
	return r
}

// value returns the value of a valid fraction.
func value(r api.Ratio) *big.Rat {
	x, ok := new(big.Rat).SetString(r.Num + "/" + r.Den)
	if !ok {
		panic("no fraction: " + r.Num + "/" + r.Den)
	}
	return x
}

// written returns the fraction with the value x.
func written(x *big.Rat) api.Ratio {
	return api.Ratio{Num: x.Num().String(), Den: x.Denom().String()}
}

// exponents returns the exponents with these texts, in the order of the base units; those that are missing are 0.
func exponents(texts ...string) [7]api.Power {
	var dims [7]api.Power
	for i := range dims {
		x := new(big.Rat)
		if i < len(texts) {
			x = value(parsed(texts[i]))
		}
		dims[i] = api.Power{Num: int(x.Num().Int64()), Den: int(x.Denom().Int64())}
	}
	return dims
}

var (
	none     = exponents()
	metre    = exponents("1")
	kelvin   = exponents("0", "0", "0", "0", "1")
	joule    = exponents("2", "1", "-2")
	everyone = exponents("-12", "12", "1/12", "-11/12", "12/11", "-1", "5/7")
	nines    = strings.Repeat("9", 200)
	ten199   = "1" + strings.Repeat("0", 199)
)

func absolute(dims [7]api.Power, factor string, offset string, kind int) api.Unit {
	return api.Unit{Dims: dims, Factor: parsed(factor), Offset: parsed(offset), Kind: kind, Scale: api.SAbsolute}
}

// plain returns the plain unit, as it is defined.
func plain(dims [7]api.Power, factor string, kind int) api.Unit {
	u := api.Unit{Dims: dims, Factor: parsed(factor), Offset: parsed("0"), Kind: kind, Scale: api.SDifference}
	if dims == none && kind == 0 {
		u.Scale = api.SRatio
	}
	return u
}

// someUnits returns valid units: of all scales, with and without exponents and kinds, and with numbers of all lengths.
func someUnits() []api.Unit {
	var l []api.Unit
	for _, dims := range [][7]api.Power{
		none, metre, kelvin, joule, everyone, exponents("1/2"), exponents("0", "0", "-1/7"), exponents("0", "12"), exponents("0", "0", "0", "0", "0", "0", "-12"),
	} {
		l = append(l, absolute(dims, "1", "5463/20", 0), absolute(dims, "5/9", "-45967/180", 0), plain(dims, "1000", 0))
		for _, kind := range []int{0, 7, 100} {
			l = append(l, plain(dims, "1", kind), plain(dims, "5/9", kind), absolute(dims, "1", "0", kind))
		}
	}
	return append(l,
		plain(none, nines, 0), plain(none, "1/"+nines, 0), plain(none, "1/100", 0), plain(metre, nines, 1), plain(metre, "1/"+nines, 1), plain(kelvin, nines+"/"+ten199, 99),
		plain(metre, "1"+strings.Repeat("0", 100), 0), plain(metre, "1"+strings.Repeat("0", 99), 0),
		absolute(none, nines, "-1/"+nines, 0), absolute(kelvin, ten199+"/"+nines, "-"+nines+"/"+ten199, 0), absolute(everyone, "1", nines, 50))
}

// notFractions returns what is no valid fraction.
func notFractions() []api.Ratio {
	l := []api.Ratio{
		{}, {Num: "1"}, {Den: "1"}, {Num: "0", Den: "0"}, {Num: "1", Den: "0"}, {Num: "0", Den: "2"}, {Num: "0", Den: "-1"}, {Num: "1", Den: "-1"}, {Num: "-1", Den: "-2"},
		{Num: "2", Den: "2"}, {Num: "6", Den: "4"}, {Num: "-6", Den: "4"}, {Num: nines + "9", Den: "1"}, {Num: "1", Den: nines + "9"}, {Num: strings.Repeat("9", 1<<20), Den: "1"},
	}
	for _, bad := range []string{"+1", "-0", "00", "01", "x", " 1", "1 ", "1/1", "1.0", "\x00"} {
		l = append(l, api.Ratio{Num: bad, Den: "1"}, api.Ratio{Num: "1", Den: bad})
	}
	return l
}

// notPowers returns what is no valid power.
func notPowers() []api.Power {
	return []api.Power{
		{Num: 0, Den: 0}, {Num: 1, Den: 0}, {Num: -1, Den: 0}, {Num: 0, Den: 2}, {Num: 0, Den: 12}, {Num: 0, Den: 13}, {Num: 0, Den: -1}, {Num: 1, Den: -1}, {Num: -1, Den: -1}, {Num: 1, Den: -2},
		{Num: 13, Den: 1}, {Num: -13, Den: 1}, {Num: 13, Den: 12}, {Num: -13, Den: 12}, {Num: 1, Den: 13}, {Num: -1, Den: 13}, {Num: 12, Den: 13},
		{Num: 2, Den: 2}, {Num: 12, Den: 12}, {Num: -12, Den: 12}, {Num: 2, Den: 4}, {Num: -2, Den: 4}, {Num: 6, Den: 9}, {Num: 4, Den: 2}, {Num: -4, Den: 2}, {Num: 12, Den: 6}, {Num: 12, Den: 10},
		{Num: math.MinInt, Den: 1}, {Num: math.MaxInt, Den: 1}, {Num: 1, Den: math.MinInt}, {Num: 1, Den: math.MaxInt}, {Num: math.MinInt, Den: math.MinInt}, {Num: math.MinInt, Den: -1}, {Num: 0, Den: math.MaxInt},
	}
}

// notUnits returns units that are not valid, each because of one thing.
func notUnits() []api.Unit {
	l := []api.Unit{{}}
	for _, good := range []api.Unit{plain(none, "1", 0), plain(none, "1", 7), plain(metre, "1", 0), plain(joule, "5/9", 7), absolute(kelvin, "1", "5463/20", 0), absolute(none, "1", "0", 0)} {
		for i := range good.Dims {
			for _, bad := range notPowers() {
				u := good
				u.Dims[i] = bad
				l = append(l, u)
			}
		}
		for _, kind := range []int{-1, 101, -100, math.MinInt, math.MaxInt} {
			u := good
			u.Kind = kind
			l = append(l, u)
		}
		for _, scale := range []int{-1, 3, 4, math.MinInt, math.MaxInt, api.SDifference + api.SRatio - good.Scale} {
			if scale == api.SDifference+api.SRatio {
				continue // an absolute unit
			}
			u := good
			u.Scale = scale
			l = append(l, u)
		}
		for _, bad := range append(notFractions(), parsed("0"), parsed("-1"), parsed("-5/9"), parsed("-"+nines)) {
			u := good
			u.Factor = bad
			l = append(l, u)
		}
		for _, bad := range notFractions() {
			u := good
			u.Offset = bad
			l = append(l, u)
		}
		for _, offset := range []string{"1", "-1", "5463/20", "1/" + nines} {
			if good.Scale != api.SAbsolute {
				u := good
				u.Offset = parsed(offset)
				l = append(l, u)
			}
		}
	}
	wrong := plain(none, "1", 0)
	wrong.Scale = api.SDifference
	l = append(l, wrong)
	for _, u := range []api.Unit{plain(metre, "1", 0), plain(none, "1", 1), plain(none, "1", 100), plain(exponents("0", "0", "0", "0", "0", "0", "1/12"), "1", 0), plain(joule, "1", 7)} {
		u.Scale = api.SRatio
		l = append(l, u)
	}
	return l
}

// shown returns a unit in writing, valid or not.
func shown(u api.Unit) string {
	var s strings.Builder
	for _, p := range u.Dims {
		s.WriteString(big.NewInt(int64(p.Num)).String() + "/" + big.NewInt(int64(p.Den)).String() + " ")
	}
	for _, part := range []string{u.Factor.Num, u.Factor.Den, u.Offset.Num, u.Offset.Den} {
		s.WriteString(strconv.Quote(part[:min(len(part), 210)]) + " ")
	}
	return "{" + s.String() + "kind " + big.NewInt(int64(u.Kind)).String() + " scale " + big.NewInt(int64(u.Scale)).String() + "}"
}

func wantUnit(t *testing.T, call string, got api.Unit, err api.Errno, want api.Unit) {
	t.Helper()
	if got != want || err != api.OK || !unit.Valid(got) {
		t.Fatalf("%s = %s, %d; want %s", call, shown(got), err, shown(want))
	}
}

func wantRefused(t *testing.T, call string, got api.Unit, err api.Errno) {
	t.Helper()
	if got != (api.Unit{}) || err != api.ErrUnit {
		t.Fatalf("%s = %s, %d; want ErrUnit", call, shown(got), err)
	}
}

// isPower reports whether p is valid, as it is defined.
func isPower(p api.Power) bool {
	if p.Den < 1 || p.Den > 12 || p.Num < -12 || p.Num > 12 {
		return false
	}
	for divisor := 2; divisor <= 12; divisor++ {
		if p.Num%divisor == 0 && p.Den%divisor == 0 {
			return false
		}
	}
	return true
}

// powers returns all valid powers.
func powers() []api.Power {
	var l []api.Power
	for num := -12; num <= 12; num++ {
		for den := 1; den <= 12; den++ {
			if p := (api.Power{Num: num, Den: den}); isPower(p) {
				l = append(l, p)
			}
		}
	}
	return l
}

// P7.1: what is valid, and what is not.
func TestValid(t *testing.T) {
	for _, u := range someUnits() {
		if !unit.Valid(u) {
			t.Errorf("%s is not valid", shown(u))
		}
	}
	for _, u := range notUnits() {
		if unit.Valid(u) {
			t.Errorf("%s is valid", shown(u))
		}
	}
}

// P7.1: each power, in each place, of an absolute unit and of one that is not.
func TestValidPowers(t *testing.T) {
	for i := range 7 {
		for _, good := range []api.Unit{plain(none, "1", 3), absolute(everyone, "1", "2", 0)} {
			for num := -30; num <= 30; num++ {
				for den := -15; den <= 30; den++ {
					u := good
					u.Dims[i] = api.Power{Num: num, Den: den}
					if unit.Valid(u) != isPower(u.Dims[i]) {
						t.Errorf("Valid(%s) = %t", shown(u), unit.Valid(u))
					}
				}
			}
		}
	}
}

// P7.1: which scales units with and without exponents, kinds and Offsets have.
func TestValidScales(t *testing.T) {
	for _, dims := range [][7]api.Power{none, metre, exponents("0", "0", "0", "0", "0", "0", "1"), exponents("0", "0", "0", "-1/12"), everyone} {
		for _, kind := range []int{math.MinInt, -1, 0, 1, 7, 99, 100, 101, math.MaxInt} {
			for _, scale := range []int{math.MinInt, -1, 0, 1, 2, 3, math.MaxInt} {
				for _, offset := range []string{"0", "1", "-1", "1/2", "-5463/20"} {
					u := api.Unit{Dims: dims, Factor: parsed("3/7"), Offset: parsed(offset), Kind: kind, Scale: scale}
					dimensionless := dims == none && kind == 0
					want := kind >= 0 && kind <= 100 && (scale == 0 || scale == 1 && offset == "0" && !dimensionless || scale == 2 && offset == "0" && dimensionless)
					if unit.Valid(u) != want {
						t.Errorf("Valid(%s) = %t", shown(u), !want)
					}
				}
			}
		}
	}
}

// P7.1: units are the same exactly if nothing differs, valid or not.
func TestSame(t *testing.T) {
	l := append(someUnits(), notUnits()...)
	var texts []string
	for _, u := range l {
		texts = append(texts, shown(u))
	}
	for i, a := range l {
		for k, b := range l {
			if unit.Same(a, b) != (texts[i] == texts[k]) {
				t.Errorf("Same(%s, %s) = %t", texts[i], texts[k], unit.Same(a, b))
			}
		}
	}
	for _, good := range []api.Unit{{}, absolute(kelvin, "1", "5463/20", 7)} {
		others := []api.Unit{good, good, good, good, good, good}
		others[0].Factor.Num += "1"
		others[1].Factor.Den += "1"
		others[2].Offset.Num += "1"
		others[3].Offset.Den += "1"
		others[4].Kind++
		others[5].Scale++
		for i := range good.Dims {
			num, den := good, good
			num.Dims[i].Num++
			den.Dims[i].Den++
			others = append(others, num, den)
		}
		for _, other := range others {
			if unit.Same(good, other) || unit.Same(other, good) || !unit.Same(other, other) {
				t.Errorf("Same(%s, %s)", shown(good), shown(other))
			}
		}
	}
}

// P7.1: the base units, and what is none.
func TestBase(t *testing.T) {
	for i := range 7 {
		want := plain(none, "1", 2)
		want.Kind = 0
		want.Dims[i] = api.Power{Num: 1, Den: 1}
		wantUnit(t, "Base", unit.Base(i), api.OK, want)
	}
	for _, i := range []int{-1, -2, -7, 7, 8, 100, math.MinInt, math.MaxInt} {
		if u := unit.Base(i); u != (api.Unit{}) {
			t.Errorf("Base(%d) = %s", i, shown(u))
		}
	}
}

// P7.1: the examples of the chapter.
func TestExamples(t *testing.T) {
	k, celsius, absoluteKelvin := unit.Base(4), absolute(kelvin, "1", "5463/20", 0), absolute(kelvin, "1", "0", 0)
	v, err := unit.Convert(parsed("25"), celsius, absoluteKelvin)
	if v != parsed("5963/20") || err != api.OK {
		t.Errorf("25 degrees are %v, %d", v, err)
	}
	v, err = unit.Convert(parsed("25"), celsius, k)
	if v != (api.Ratio{}) || err != api.ErrUnit {
		t.Errorf("25 degrees are a difference of %v, %d", v, err)
	}
	u, err := unit.Sum(celsius, k)
	wantUnit(t, "Sum(C, K)", u, err, celsius)
	u, err = unit.Sum(celsius, celsius)
	wantRefused(t, "Sum(C, C)", u, err)
	u, err = unit.Difference(celsius, celsius)
	wantUnit(t, "Difference(C, C)", u, err, k)
	u, err = unit.Difference(k, celsius)
	wantRefused(t, "Difference(K, C)", u, err)
	root, err := unit.Pow(unit.Base(0), api.Power{Num: 1, Den: 2})
	wantUnit(t, "Pow(Base(0), 1/2)", root, err, plain(exponents("1/2"), "1", 0))
	if s, err := unit.Print(root); s != "difference kind 0 factor 1 offset 0 m^1/2" || err != api.OK {
		t.Errorf("the root of a metre is %q, %d", s, err)
	}
	u, err = unit.Mul(root, root)
	wantUnit(t, "Mul of it and itself", u, err, unit.Base(0))
	u, err = unit.Div(unit.Base(0), unit.Base(0))
	wantUnit(t, "Div(Base(0), Base(0))", u, err, api.Unit{Dims: none, Factor: parsed("1"), Offset: parsed("0"), Kind: 0, Scale: api.SRatio})
	if s, err := unit.Print(celsius); s != "absolute kind 0 factor 1 offset 5463/20 K^1" || err != api.OK {
		t.Errorf("a degree Celsius is %q, %d", s, err)
	}
	newton := plain(exponents("1", "1", "-2"), "1", 0)
	energy, err := unit.Mul(newton, plain(metre, "1", 7))
	wantUnit(t, "Mul of newton and metre with the Kind 7", energy, err, plain(joule, "1", 0))
	u, err = unit.Sum(plain(joule, "1", 7), energy)
	wantRefused(t, "Sum of a torque and an energy", u, err)
}

// R3: a result is new memory, also where it is the same number as in an argument.
func TestNewMemory(t *testing.T) {
	digits := strings.Repeat("321", 20)
	one, ratio := api.Power{Num: 1, Den: 1}, plain(none, "1", 0)
	difference, position := plain(metre, digits+"/"+digits+"1", 0), absolute(metre, digits+"/"+digits+"1", digits+"/"+digits+"2", 0)
	if position.Factor != difference.Factor || !unit.Valid(position) {
		t.Fatal("the units do not fit")
	}
	arguments := map[*byte]bool{}
	for _, u := range []api.Unit{difference, position} {
		for _, s := range []string{u.Factor.Num, u.Factor.Den, u.Offset.Num, u.Offset.Den} {
			arguments[unsafe.StringData(s)] = len(s) > 1
		}
	}
	var results []string
	keep := func(u api.Unit, err api.Errno) {
		if err != api.OK {
			t.Errorf("result %d is refused", len(results))
		}
		results = append(results, u.Factor.Num, u.Factor.Den, u.Offset.Num, u.Offset.Den)
	}
	keep(unit.Mul(difference, ratio))
	keep(unit.Mul(ratio, difference))
	keep(unit.Div(difference, ratio))
	keep(unit.Pow(difference, one))
	keep(unit.Sum(difference, difference))
	keep(unit.Sum(position, difference))
	keep(unit.Sum(difference, position))
	keep(unit.Difference(difference, difference))
	keep(unit.Difference(position, difference))
	keep(unit.Difference(position, position))
	printed, _ := unit.Print(position)
	keep(unit.Parse(printed))
	same, _ := unit.Convert(difference.Factor, ratio, ratio)
	results = append(results, same.Num, same.Den)
	for i, s := range results {
		if arguments[unsafe.StringData(s)] {
			t.Errorf("result %d is part of an argument", i)
		}
	}
}

// R3, R4: the same calls return the same results again, whatever was called in between.
func TestRepeated(t *testing.T) {
	a, b, c := plain(joule, "5/9", 7), plain(metre, "1000", 0), absolute(kelvin, "1", "5463/20", 0)
	results := func() string {
		var l []api.Unit
		keep := func(u api.Unit, err api.Errno) {
			l = append(l, u, api.Unit{Kind: int(err)})
		}
		keep(unit.Mul(a, b))
		keep(unit.Div(a, b))
		keep(unit.Pow(a, api.Power{Num: -2, Den: 1}))
		keep(unit.Sum(c, unit.Base(4)))
		keep(unit.Difference(c, c))
		keep(unit.Parse("ratio kind 0 factor 1/100 offset 0"))
		keep(unit.Base(3), api.OK)
		var s strings.Builder
		for _, u := range l {
			s.WriteString(shown(u))
		}
		printed, _ := unit.Print(a)
		v, _ := unit.Convert(parsed("7/3"), c, absolute(kelvin, "5/9", "0", 0))
		return s.String() + printed + rational.Print(v)
	}
	first := results()
	for range 3 {
		unit.Mul(a, c)
		unit.Parse("ratio")
		unit.Convert(api.Ratio{}, c, c)
		if again := results(); again != first {
			t.Fatalf("first %s, then %s", first, again)
		}
	}
}

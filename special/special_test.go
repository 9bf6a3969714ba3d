package special_test

import (
	"math"
	"math/big"
	"math/rand"
	"strings"
	"testing"
	"unsafe"

	"yardstick/api"
	"yardstick/special"
)

// rat returns the number that s stands for.
func rat(s string) *big.Rat {
	x, ok := new(big.Rat).SetString(s)
	if !ok {
		panic("no fraction: " + s)
	}
	return x
}

// ratio returns the fraction with the value x.
func ratio(x *big.Rat) api.Ratio {
	return api.Ratio{Num: x.Num().String(), Den: x.Denom().String()}
}

// value returns the value of a fraction.
func value(r api.Ratio) *big.Rat {
	return rat(r.Num + "/" + r.Den)
}

// step returns the width of a cell.
func step(places int) *big.Rat {
	return rat("1/1" + strings.Repeat("0", places))
}

// calls are the functions with one argument besides places, and with 5 as the freedom.
var calls = map[string]func(api.Ratio, int) (api.Interval, api.Errno){
	"Exp": special.Exp, "Log": special.Log, "Normal": special.Normal, "Quantile": special.Quantile,
	"Chi": func(x api.Ratio, places int) (api.Interval, api.Errno) { return special.Chi(x, 5, places) },
}

// wantRefused checks a result that must be an error.
func wantRefused(t *testing.T, call string, x api.Ratio, places int, got api.Interval, err api.Errno) {
	t.Helper()
	if got != (api.Interval{}) || err != api.ErrSpecial {
		t.Errorf("%s(%.50s, %d) = %v, %d; want ErrSpecial", call, x, places, got, err)
	}
}

// wantInterval checks a result, whose ends are written in want.
func wantInterval(t *testing.T, call string, x string, places int, got api.Interval, err api.Errno, want string) {
	t.Helper()
	ends := strings.Fields(want)
	if err != api.OK || got != (api.Interval{Lo: ratio(rat(ends[0])), Hi: ratio(rat(ends[1]))}) {
		t.Errorf("%s(%s, %d) = %v, %d; want %s", call, x, places, got, err, want)
	}
}

// cell returns the cell of a number that is not on the grid.
func cell(v *big.Float, places int) api.Interval {
	size := new(big.Int).Exp(big.NewInt(10), big.NewInt(int64(places)), nil)
	number := times(v, new(big.Float).SetPrec(precision).SetInt(size))
	low, _ := number.Int(nil) // towards 0
	if v.Sign() < 0 {
		low.Sub(low, big.NewInt(1))
	}
	high := new(big.Int).Add(low, big.NewInt(1))
	return api.Interval{Lo: ratio(new(big.Rat).SetFrac(low, size)), Hi: ratio(new(big.Rat).SetFrac(high, size))}
}

// wantCells checks a call for all numbers of places against the value that the oracle has, which is not on any grid.
func wantCells(t *testing.T, call string, f func(api.Ratio, int) (api.Interval, api.Errno), x *big.Rat, v *big.Float) {
	t.Helper()
	for places := range api.MaxExact + 1 {
		got, err := f(ratio(x), places)
		if want := cell(v, places); err != api.OK || got != want {
			t.Errorf("%s(%s, %d) = %v, %d; want %v", call, x, places, got, err, want)
		}
	}
}

// randomRat returns a short fraction, near 0 or far from it.
func randomRat(source *rand.Rand) *big.Rat {
	digits := func() int64 { return 1 + source.Int63n(int64(math.Pow10(1+source.Intn(api.MaxExact)))-1) }
	return big.NewRat(digits(), digits())
}

// randomFrom returns a short fraction from low to high.
func randomFrom(source *rand.Rand, low, high *big.Rat) *big.Rat {
	for {
		x := randomRat(source)
		if low.Sign() < 0 && source.Intn(2) == 0 {
			x.Neg(x)
		}
		if x.Cmp(low) >= 0 && x.Cmp(high) <= 0 {
			return x
		}
	}
}

// P6.1: the examples of the chapter.
func TestExamples(t *testing.T) {
	for _, c := range []struct {
		call, x string
		places  int
		want    string
	}{
		{"Exp", "0", 3, "1 1"}, {"Exp", "1", 3, "2.718 2.719"}, {"Exp", "-1", 5, "0.36787 0.36788"},
		{"Log", "2", 6, "0.693147 0.693148"}, {"Log", "1/2", 6, "-0.693148 -0.693147"},
		{"Normal", "0", 2, "0.5 0.5"}, {"Normal", "1", 6, "0.841344 0.841345"}, {"Normal", "-3", 6, "0.001349 0.001350"},
		{"Quantile", "1/2", 3, "0 0"}, {"Quantile", "39/40", 4, "1.9599 1.96"},
	} {
		got, err := calls[c.call](ratio(rat(c.x)), c.places)
		wantInterval(t, c.call, c.x, c.places, got, err, c.want)
	}
	for _, c := range []struct {
		x               string
		freedom, places int
		want            string
	}{
		{"0", 3, 4, "1 1"}, {"2", 2, 6, "0.367879 0.367880"}, {"1", 1, 6, "0.317310 0.317311"},
	} {
		got, err := special.Chi(ratio(rat(c.x)), c.freedom, c.places)
		wantInterval(t, "Chi", c.x, c.places, got, err, c.want)
	}
	got, err := special.Log(ratio(rat("0")), 6)
	wantRefused(t, "Log", ratio(rat("0")), 6, got, err)
}

// P6.1: numbers that are in every table; so that the tests do not rest on the oracle alone.
func TestTables(t *testing.T) {
	for _, c := range []struct{ call, x, want string }{
		{"Exp", "1", "2.718281828459 2.718281828460"},
		{"Exp", "1/2", "1.648721270700 1.648721270701"},
		{"Exp", "10", "22026.465794806716 22026.465794806717"},
		{"Log", "2", "0.693147180559 0.693147180560"},
		{"Log", "10", "2.302585092994 2.302585092995"},
		{"Normal", "1", "0.841344746068 0.841344746069"},
		{"Normal", "2", "0.977249868051 0.977249868052"},
		{"Normal", "3", "0.998650101968 0.998650101969"},
		{"Quantile", "39/40", "1.959963984540 1.959963984541"},
		{"Quantile", "19/20", "1.644853626951 1.644853626952"},
		{"Quantile", "199/200", "2.575829303548 2.575829303549"},
		{"Quantile", "3/4", "0.674489750196 0.674489750197"},
	} {
		places := len(strings.Fields(c.want)[0]) - strings.Index(c.want, ".") - 1
		if places <= api.MaxExact {
			got, err := calls[c.call](ratio(rat(c.x)), places)
			wantInterval(t, c.call, c.x, places, got, err, c.want)
		}
	}
	for freedom, x := range map[int]string{1: "3.841", 2: "5.991", 5: "11.070", 10: "18.307", 20: "31.410"} {
		got, err := special.Chi(ratio(rat(x)), freedom, 4)
		if err != api.OK || value(got.Hi).Cmp(rat("0.0499")) < 0 || value(got.Lo).Cmp(rat("0.0501")) > 0 {
			t.Errorf("Chi(%s, %d, 4) = %v, %d", x, freedom, got, err)
		}
	}
}

// P6.1, P6.2: the values that are on the grid.
func TestOnGrid(t *testing.T) {
	for places := range api.MaxExact + 1 {
		for _, c := range []struct{ call, x, want string }{
			{"Exp", "0", "1 1"}, {"Log", "1", "0 0"}, {"Quantile", "1/2", "0 0"}, {"Chi", "0", "1 1"},
		} {
			got, err := calls[c.call](ratio(rat(c.x)), places)
			wantInterval(t, c.call, c.x, places, got, err, c.want)
		}
		for freedom := 1; freedom <= api.MaxFreedom; freedom++ {
			got, err := special.Chi(ratio(rat("0")), freedom, places)
			wantInterval(t, "Chi", "0", places, got, err, "1 1")
		}
		half := "1/2 1/2"
		if places == 0 {
			half = "0 1"
		}
		got, err := special.Normal(ratio(rat("0")), places)
		wantInterval(t, "Normal", "0", places, got, err, half)
	}
}

// P6.1: Exp, at the ends of its range, near 0, and between.
func TestExp(t *testing.T) {
	l := []*big.Rat{
		rat("20"), rat("-20"), rat("1"), rat("-1"), rat("1/2"), rat("999999999999/50000000000"), rat("-999999999999/50000000000"),
		rat("1/999999999999"), rat("-1/999999999999"), rat("1/100000000000"), rat("-1/100000000000"), rat("999999999998/999999999999"),
		// The values of these differ from numbers on the grid by less than 10^-32.
		rat("-2/999999999999"), rat("2/500000000001"), rat("-2/499999999999"), rat("2/200000000001"), rat("-2/199999999999"), rat("-2/49999999999"),
	}
	source := rand.New(rand.NewSource(1))
	for range 150 {
		l = append(l, randomFrom(source, rat("-20"), rat("20")))
	}
	for _, x := range l {
		wantCells(t, "Exp", special.Exp, x, exp(float(x)))
	}
}

// P6.1: Log, of the least and greatest fractions, near 1, and between.
func TestLog(t *testing.T) {
	l := []*big.Rat{
		rat("999999999999"), rat("1/999999999999"), rat("2"), rat("1/2"), rat("4"), rat("1/4"), rat("549755813888"), rat("1/549755813888"), rat("549755813889"), rat("549755813887"),
		rat("999999999999/999999999998"), rat("999999999998/999999999999"), rat("3/2"), rat("2/3"), rat("10"),
		// The values of these differ from numbers on the grid by less than 10^-32.
		rat("499999999999/500000000001"), rat("500000000001/499999999999"), rat("200000000001/199999999999"), rat("99999999999/100000000001"),
	}
	source := rand.New(rand.NewSource(2))
	for range 200 {
		l = append(l, randomRat(source))
	}
	for _, x := range l {
		wantCells(t, "Log", special.Log, x, log(float(x)))
	}
}

// P6.1: Normal, near 0 and on both sides of it.
func TestNormal(t *testing.T) {
	l := []*big.Rat{
		rat("1"), rat("1/999999999999"), rat("999999999999/125000000000"), rat("8"), rat("999999999/125000000"), rat("9"), rat("7.034"), rat("7.035"), rat("7.9"), rat("10.5"), rat("1.96"), rat("5"),
	}
	source := rand.New(rand.NewSource(3))
	for range 80 {
		l = append(l, randomFrom(source, rat("0"), rat("9")))
	}
	for _, x := range l {
		wantCells(t, "Normal", special.Normal, x, normal(float(x)))
		x = new(big.Rat).Neg(x)
		wantCells(t, "Normal", special.Normal, x, normal(float(x)))
	}
}

// P6.1: Normal far out, where the cell lies at 0 or at 1.
func TestNormalFar(t *testing.T) {
	for places := range api.MaxExact + 1 {
		one := rat("1")
		top := api.Interval{Lo: ratio(new(big.Rat).Sub(one, step(places))), Hi: ratio(one)}
		bottom := api.Interval{Lo: ratio(rat("0")), Hi: ratio(step(places))}
		for _, s := range strings.Fields("8 8000000001/1000000000 79999/10000 100 1000000 999999999999 999999999999/11") {
			if got, err := special.Normal(ratio(rat(s)), places); got != top || err != api.OK {
				t.Errorf("Normal(%s, %d) = %v, %d", s, places, got, err)
			}
			if got, err := special.Normal(ratio(rat("-"+s)), places); got != bottom || err != api.OK {
				t.Errorf("Normal(-%s, %d) = %v, %d", s, places, got, err)
			}
		}
	}
}

// wantQuantile checks that N at the ends of the cells of Quantile encloses p, by the oracle.
func wantQuantile(t *testing.T, p *big.Rat) {
	t.Helper()
	for places := range api.MaxExact + 1 {
		got, err := special.Quantile(ratio(p), places)
		if err != api.OK {
			t.Errorf("Quantile(%s, %d) = %d", p, places, err)
			continue
		}
		low, high := value(got.Lo), value(got.Hi)
		onGrid := new(big.Rat).Quo(low, step(places)).IsInt()
		if !onGrid || new(big.Rat).Sub(high, low).Cmp(step(places)) != 0 || normal(float(low)).Cmp(float(p)) >= 0 || normal(float(high)).Cmp(float(p)) <= 0 {
			t.Errorf("Quantile(%s, %d) = %v", p, places, got)
		}
	}
}

// P6.1, P6.4: Quantile, at the ends of its range, near 1/2, and between.
func TestQuantile(t *testing.T) {
	l := []*big.Rat{
		rat("1/1000000"), rat("999999/1000000"), rat("39/40"), rat("1/3"), rat("0.8"), rat("499999999998/999999999997"), rat("499999999999/999999999997"), rat("999999/999998000001"), rat("999998999999/999999999999"),
	}
	source := rand.New(rand.NewSource(4))
	for range 20 {
		l = append(l, randomFrom(source, rat("1/1000000"), rat("999999/1000000")))
	}
	for _, p := range l {
		wantQuantile(t, p)
		if other := new(big.Rat).Sub(rat("1"), p); short(other) {
			wantQuantile(t, other)
		}
	}
}

// P6.1, P6.4: Quantile of numbers next to N of a number on the grid.
func TestQuantileNear(t *testing.T) {
	for _, x := range strings.Fields("0.001 1 3 4.7") {
		near, _ := normal(float(rat(x))).Float64()
		n := int64(near * 999999999989)
		for d := int64(-1); d <= 2; d++ {
			wantQuantile(t, big.NewRat(n+d, 999999999989))
			wantQuantile(t, big.NewRat(999999999989-n-d, 999999999989))
		}
	}
}

// P6.1: Chi, for all degrees of freedom.
func TestChi(t *testing.T) {
	l := []*big.Rat{
		rat("100"), rat("999999999999/10000000000"), rat("1/999999999999"), rat("1/1000"), rat("1/2"), rat("1"), rat("2"), rat("20"), rat("50"), rat("84.1"),
	}
	source := rand.New(rand.NewSource(5))
	for range 20 {
		l = append(l, randomFrom(source, rat("0"), rat("100")))
	}
	for freedom := 1; freedom <= api.MaxFreedom; freedom++ {
		call := func(x api.Ratio, places int) (api.Interval, api.Errno) { return special.Chi(x, freedom, places) }
		for _, x := range l {
			wantCells(t, "Chi", call, x, chi(float(x), freedom))
		}
	}
}

// P6.1: fractions just outside the ranges, and the last ones within them.
func TestRanges(t *testing.T) {
	for call, c := range map[string]struct{ in, out string }{
		"Exp":      {"20 -20 999999999999/50000000000 -999999999999/50000000000 0", "21 -21 999999999981/49999999999 -999999999981/49999999999 20000001/1000000 -20000001/1000000 999999999999 -999999999999"},
		"Log":      {"1/999999999999 999999999999 1", "0 -1/999999999999 -1 -2 -999999999999"},
		"Normal":   {"0 999999999999 -999999999999 1/999999999999 -1/999999999999 999999999999/999999999998 -999999999998/999999999999", ""},
		"Quantile": {"1/1000000 999999/1000000 1/999999 999998/999999 1/2 999999/999999000000", "1/1000001 1000000/1000001 0 1 -1/1000000 -1/2 2 999999/999999000001 999999000000/999999999999 999998/999998000001 1/999999999999 999999999998/999999999999 999999999999 -999999999999"},
		"Chi":      {"0 100 1/999999999999 999999999999/10000000000", "-1/999999999999 -1 -100 101 999999999901/9999999999 100000001/1000000 999999999999 -999999999999"},
	} {
		for _, places := range []int{0, 5, 12} {
			for _, s := range strings.Fields(c.in) {
				if got, err := calls[call](ratio(rat(s)), places); err != api.OK || got == (api.Interval{}) {
					t.Errorf("%s(%s, %d) = %v, %d", call, s, places, got, err)
				}
			}
			for _, s := range strings.Fields(c.out) {
				got, err := calls[call](ratio(rat(s)), places)
				wantRefused(t, call, ratio(rat(s)), places, got, err)
			}
		}
	}
}

// notShort returns what is no short fraction.
func notShort() []api.Ratio {
	l := []api.Ratio{
		{}, {Num: "1"}, {Den: "1"}, {Num: "1", Den: "0"}, {Num: "0", Den: "0"}, {Num: "0", Den: "2"}, {Num: "2", Den: "4"}, {Num: "4", Den: "2"}, {Num: "1", Den: "-2"}, {Num: "-1", Den: "-2"}, {Num: "-", Den: "1"}, {Num: "1", Den: "-"}, {Num: "--1", Den: "1"}, {Num: "01", Den: "2"}, {Num: "1", Den: "02"}, {Num: "+1", Den: "2"}, {Num: "-0", Den: "1"}, {Num: "1.5", Den: "1"}, {Num: " 1", Den: "2"}, {Num: "1", Den: "2 "}, {Num: "a", Den: "1"}, {Num: "1", Den: "\x00"},
		{Num: "999999999999", Den: "999999999999"}, {Num: "500000000000", Den: "999999999998"},
	}
	for _, zeros := range []int{12, 13, 18, 19, 20, 100, 199, 200, 1 << 20} {
		long := "1" + strings.Repeat("0", zeros)
		nines := strings.Repeat("9", zeros+1)
		l = append(l, api.Ratio{Num: "1", Den: long}, api.Ratio{Num: "1", Den: nines}, api.Ratio{Num: "-1", Den: long}, api.Ratio{Num: long, Den: "1"}, api.Ratio{Num: "-" + long, Den: "1"}, api.Ratio{Num: long, Den: nines}, api.Ratio{Num: nines, Den: long}, api.Ratio{Num: "-" + nines, Den: long})
	}
	return append(l, api.Ratio{Num: "0", Den: "1000000000000"}, api.Ratio{Num: "999999999999", Den: "1000000000001"}, api.Ratio{Num: "1000000000001", Den: "999999999999"})
}

// P6.1: fractions that are not short, numbers of places out of range, and degrees of freedom out of range.
func TestRefused(t *testing.T) {
	least, most := math.MinInt, math.MaxInt
	for call, f := range calls {
		for _, x := range notShort() {
			for _, places := range []int{0, 6, 12, 13, -1} {
				got, err := f(x, places)
				wantRefused(t, call, x, places, got, err)
			}
		}
		for _, places := range []int{-1, -2, -12, 13, 14, 30, 200, 1 << 40, least, most} {
			for _, s := range strings.Fields("0 1/2 1 20") {
				got, err := f(ratio(rat(s)), places)
				wantRefused(t, call, ratio(rat(s)), places, got, err)
			}
		}
	}
	for _, freedom := range []int{0, -1, -2, -20, 21, 22, 40, 1 << 40, least, most} {
		for _, s := range strings.Fields("0 1 2 100 -1 101") {
			for _, places := range []int{0, 6, 12, 13, -1} {
				got, err := special.Chi(ratio(rat(s)), freedom, places)
				wantRefused(t, "Chi", ratio(rat(s)), places, got, err)
			}
		}
	}
	for _, freedom := range []int{1, 2, 19, 20} {
		for _, x := range append(notShort(), ratio(rat("-1")), ratio(rat("101"))) {
			got, err := special.Chi(x, freedom, 6)
			wantRefused(t, "Chi", x, 6, got, err)
		}
	}
}

// R3: results share no memory with arguments, nor with one another.
func TestNewMemory(t *testing.T) {
	for call, f := range calls {
		x := ratio(rat("1/2"))
		got, err := f(x, 1)
		seen := map[*byte]bool{unsafe.StringData(x.Num): true, unsafe.StringData(x.Den): true}
		for _, s := range []string{got.Lo.Num, got.Lo.Den, got.Hi.Num, got.Hi.Den} {
			// Strings of one digit are the same memory wherever the library makes them.
			if len(s) > 1 && seen[unsafe.StringData(s)] {
				t.Errorf("%s(1/2, 1) = %v, %d shares memory", call, got, err)
			}
			seen[unsafe.StringData(s)] = true
		}
	}
}

// R4: the same call returns the same.
func TestRepeated(t *testing.T) {
	for call, f := range calls {
		for _, s := range strings.Fields("1/2 1/3 0 1 7") {
			for places := range api.MaxExact + 1 {
				first, err := f(ratio(rat(s)), places)
				if again, code := f(ratio(rat(s)), places); again != first || code != err {
					t.Errorf("%s(%s, %d) is %v, then %v", call, s, places, first, again)
				}
			}
		}
	}
}

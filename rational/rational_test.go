package rational_test

import (
	"math"
	"math/big"
	"math/rand"
	"strconv"
	"strings"
	"testing"
	"unsafe"

	"yardstick/api"
	"yardstick/rational"
)

// number returns the number that s stands for, as Go's library has it.
func number(s string) *big.Int {
	n, ok := new(big.Int).SetString(s, 10)
	if !ok {
		panic("no number: " + s)
	}
	return n
}

// power returns 10 to the power of n.
func power(n int) *big.Int {
	return new(big.Int).Exp(big.NewInt(10), big.NewInt(int64(n)), nil)
}

func plus(a, b *big.Int) *big.Int  { return new(big.Int).Add(a, b) }
func minus(a, b *big.Int) *big.Int { return new(big.Int).Sub(a, b) }
func times(a, b *big.Int) *big.Int { return new(big.Int).Mul(a, b) }

// fits reports whether n has at most 200 digits.
func fits(n *big.Int) bool {
	return len(new(big.Int).Abs(n).String()) <= api.MaxDigits
}

// value returns the value of a valid fraction.
func value(r api.Ratio) *big.Rat {
	return new(big.Rat).SetFrac(number(r.Num), number(r.Den))
}

// written returns the fraction with the value x.
func written(x *big.Rat) api.Ratio {
	return api.Ratio{Num: x.Num().String(), Den: x.Denom().String()}
}

// fraction returns the fraction n / d.
func fraction(n, d *big.Int) api.Ratio {
	return written(new(big.Rat).SetFrac(n, d))
}

// parsed returns the fraction that s stands for, in lowest terms or not.
func parsed(s string) api.Ratio {
	x, ok := new(big.Rat).SetString(s)
	if !ok {
		panic("no fraction: " + s)
	}
	return written(x)
}

// negated returns minus r.
func negated(r api.Ratio) api.Ratio {
	return written(new(big.Rat).Neg(value(r)))
}

// randomInteger returns a number of that many digits, with many zeros and nines.
func randomInteger(random *rand.Rand, digits int) *big.Int {
	var s strings.Builder
	s.WriteByte(byte('1' + random.Intn(9)))
	for s.Len() < digits {
		for _, d := range []byte("09")[:random.Intn(3)] {
			s.WriteString(strings.Repeat(string(d), random.Intn(9)))
		}
		s.WriteString(strconv.Itoa(random.Intn(100000)))
	}
	return number(s.String()[:digits])
}

// randomFraction returns a fraction of either sign whose parts have at most that many digits.
func randomFraction(random *rand.Rand, digits int) api.Ratio {
	n, d := randomInteger(random, 1+random.Intn(digits)), randomInteger(random, 1+random.Intn(digits))
	if random.Intn(2) == 0 {
		n.Neg(n)
	}
	return fraction(n, d)
}

// someFractions returns valid fractions: small ones, those near the limit of the digits, and random ones, of both signs.
func someFractions() []api.Ratio {
	l := []api.Ratio{{Num: "0", Den: "1"}}
	one, seven, most := big.NewInt(1), big.NewInt(7), minus(power(200), big.NewInt(1))
	parts := []*big.Int{one, big.NewInt(2), seven, big.NewInt(1000000), power(99), plus(power(100), one), power(199), minus(power(199), one), most}
	for _, n := range parts {
		for _, d := range parts {
			l = append(l, fraction(n, d), negated(fraction(n, d)))
		}
	}
	random := rand.New(rand.NewSource(1))
	for _, digits := range []int{2, 4, 20, 40, 100, 200} {
		for range 8 {
			l = append(l, randomFraction(random, digits))
		}
	}
	return l
}

// notFractions returns what is no valid fraction.
func notFractions() []api.Ratio {
	l := []api.Ratio{
		{}, {Num: "1"}, {Den: "1"}, {Num: "0"}, {Num: "0", Den: "0"}, {Num: "1", Den: "0"}, {Num: "-7", Den: "0"},
		{Num: "0", Den: "2"}, {Num: "0", Den: "10"}, {Num: "0", Den: "-1"}, {Num: "0", Den: "-2"},
		{Num: "1", Den: "-1"}, {Num: "1", Den: "-2"}, {Num: "-1", Den: "-2"}, {Num: "3", Den: "-7"}, {Num: "-3", Den: "-7"},
		{Num: "2", Den: "2"}, {Num: "-2", Den: "2"}, {Num: "2", Den: "4"}, {Num: "6", Den: "4"}, {Num: "-6", Den: "4"}, {Num: "35", Den: "49"}, {Num: "4", Den: "2"}, {Num: "-9", Den: "3"},
		{Num: power(199).String(), Den: power(199).String()}, {Num: power(199).String(), Den: "2"}, {Num: "5", Den: power(150).String()},
		{Num: power(200).String(), Den: "1"}, {Num: "1", Den: power(200).String()}, {Num: "-" + power(200).String(), Den: "1"},
		{Num: strings.Repeat("9", 1<<20), Den: "1"}, {Num: "1", Den: strings.Repeat("1", 1<<20)},
	}
	for _, bad := range []string{"", "-", "+1", "-0", "00", "01", "-01", "--1", "x", "1x", " 1", "1 ", "1/1", "1.0", "1e2", "/", "\x00", "\u0661"} {
		l = append(l, api.Ratio{Num: bad, Den: "1"}, api.Ratio{Num: "1", Den: bad}, api.Ratio{Num: bad, Den: "7"}, api.Ratio{Num: "0", Den: bad}, api.Ratio{Num: bad, Den: bad})
	}
	return l
}

// wantFraction checks a result, which must be a valid fraction.
func wantFraction(t *testing.T, call string, got api.Ratio, err api.Errno, want api.Ratio) {
	t.Helper()
	if got != want || err != api.OK || !rational.Valid(got) {
		t.Fatalf("%s = %v, %d; want %v", call, got, err, want)
	}
}

func wantRefused(t *testing.T, call string, got api.Ratio, err api.Errno) {
	t.Helper()
	if got != (api.Ratio{}) || err != api.ErrRational {
		t.Fatalf("%s = %v, %d; want ErrRational", call, got, err)
	}
}

// shown returns a call in writing.
func shown(name string, arguments ...api.Ratio) string {
	for _, r := range arguments {
		name += " " + r.Num[:min(len(r.Num), 210)] + "/" + r.Den[:min(len(r.Den), 210)]
	}
	return name
}

// P4.1, P4.2: what is valid.
func TestValid(t *testing.T) {
	for _, r := range notFractions() {
		if rational.Valid(r) {
			t.Errorf("%s is valid", shown("", r))
		}
	}
	for _, r := range someFractions() {
		if !rational.Valid(r) {
			t.Errorf("%s is not valid", shown("", r))
		}
	}
}

// P4.1, P4.2: of all fractions with small parts those in lowest terms are valid, and there is one for each value.
func TestValidOnlyOne(t *testing.T) {
	for n := -40; n <= 40; n++ {
		for d := -40; d <= 40; d++ {
			r := api.Ratio{Num: strconv.Itoa(n), Den: strconv.Itoa(d)}
			want := d > 0 && r == fraction(big.NewInt(int64(n)), big.NewInt(int64(d)))
			if rational.Valid(r) != want {
				t.Errorf("Valid(%v) = %t", r, !want)
			}
		}
	}
}

// P4.1, P4.2: Make and Of of all small numbers, and of the extreme ones.
func TestMakeAndOf(t *testing.T) {
	l := []int{math.MinInt, math.MinInt + 1, math.MinInt / 2, math.MaxInt, math.MaxInt - 1, 1 << 32, -1000000, 1000000}
	for n := -25; n <= 25; n++ {
		l = append(l, n)
	}
	for _, n := range l {
		for _, d := range l {
			call := "Of " + strconv.Itoa(n) + " " + strconv.Itoa(d)
			of, errOf := rational.Of(n, d)
			made, errMade := rational.Make(strconv.Itoa(n), strconv.Itoa(d))
			if d == 0 {
				wantRefused(t, call, of, errOf)
				wantRefused(t, call, made, errMade)
				continue
			}
			want := fraction(big.NewInt(int64(n)), big.NewInt(int64(d)))
			wantFraction(t, call, of, errOf, want)
			wantFraction(t, call, made, errMade, want)
		}
	}
}

// P4.1: Make of long numbers, with and without common divisors, of all signs.
func TestMakeLong(t *testing.T) {
	random := rand.New(rand.NewSource(2))
	for range 300 {
		common := randomInteger(random, 1+random.Intn(100))
		n, d := times(common, randomInteger(random, 1+random.Intn(100))), times(common, randomInteger(random, 1+random.Intn(100)))
		for _, x := range []*big.Int{n, new(big.Int).Neg(n), new(big.Int)} {
			for _, y := range []*big.Int{d, new(big.Int).Neg(d)} {
				r, err := rational.Make(x.String(), y.String())
				wantFraction(t, "Make "+x.String()+" "+y.String(), r, err, fraction(x, y))
			}
		}
	}
	for _, r := range someFractions() {
		made, err := rational.Make(r.Num, r.Den)
		wantFraction(t, shown("Make", r), made, err, r)
		made, err = rational.Make(r.Num, "-"+r.Den)
		wantFraction(t, shown("Make minus", r), made, err, negated(r))
	}
}

// P4.1: Make of what is no integer, and of the denominator 0.
func TestMakeRefused(t *testing.T) {
	for _, bad := range []string{"", "-", "+1", "-0", "00", "01", "-01", "--1", "x", " 1", "1 ", "1/1", "1.0", "\x00", power(200).String(), "-" + power(200).String(), strings.Repeat("0", 1<<20)} {
		for _, other := range []string{"0", "1", "-1", "10", strings.Repeat("9", 200), bad} {
			r, err := rational.Make(bad, other)
			wantRefused(t, "Make", r, err)
			r, err = rational.Make(other, bad)
			wantRefused(t, "Make", r, err)
		}
	}
	for _, n := range []string{"0", "1", "-1", strings.Repeat("9", 200)} {
		r, err := rational.Make(n, "0")
		wantRefused(t, "Make", r, err)
	}
}

// P4.1: the examples of the chapter.
func TestExamples(t *testing.T) {
	for call, want := range map[[2]int]string{{6, -4}: "-3/2", {0, -5}: "0"} {
		r, err := rational.Of(call[0], call[1])
		wantFraction(t, "Of", r, err, parsed(want))
	}
	r, err := rational.Of(1, 0)
	wantRefused(t, "Of 1 0", r, err)
	for _, c := range [][4]string{{"Add", "1/2", "1/3", "5/6"}, {"Sub", "1/2", "1/2", "0"}, {"Mul", "-2/3", "3/4", "-1/2"}, {"Div", "1/2", "-1/4", "-2"}} {
		for _, o := range operations() {
			if o.name == c[0] {
				r, err := o.run(parsed(c[1]), parsed(c[2]))
				wantFraction(t, strings.Join(c[:], " "), r, err, parsed(c[3]))
			}
		}
	}
	r, err = rational.Div(parsed("1"), parsed("0"))
	wantRefused(t, "Div 1 0", r, err)
	long := fraction(power(150), big.NewInt(1))
	r, err = rational.Mul(long, long)
	wantRefused(t, "Mul", r, err)
	if rational.Compare(parsed("1/3"), api.Ratio{Num: "33333", Den: "100000"}) != 1 || rational.Compare(parsed("-1/2"), parsed("-1/3")) != -1 {
		t.Error("Compare")
	}
	for _, c := range []struct {
		name, r string
		places  int
		want    string
	}{{"Down", "1/3", 2, "33/100"}, {"Up", "1/3", 2, "17/50"}, {"Down", "-1/3", 2, "-17/50"}, {"Up", "7", 3, "7"}} {
		f := rational.Down
		if c.name == "Up" {
			f = rational.Up
		}
		r, err := f(parsed(c.r), c.places)
		wantFraction(t, c.name+" "+c.r, r, err, parsed(c.want))
	}
	r, err = rational.Parse("-3/2")
	wantFraction(t, "Parse -3/2", r, err, api.Ratio{Num: "-3", Den: "2"})
	for _, s := range []string{"3/-2", "6/4", "3/1", "+3"} {
		r, err := rational.Parse(s)
		wantRefused(t, "Parse "+s, r, err)
	}
}

// R3: a result is new memory, also where it is the same number as an argument.
func TestNewMemory(t *testing.T) {
	digits := strings.Repeat("321", 20)
	r, zero, one := api.Ratio{Num: digits, Den: "1"}, parsed("0"), parsed("1")
	made, _ := rational.Make(digits, "1")
	read, _ := rational.Parse(digits)
	down, _ := rational.Down(r, 3)
	up, _ := rational.Up(r, 0)
	results := []string{made.Num, read.Num, down.Num, up.Num, rational.Print(r)}
	for _, o := range operations() {
		for _, neutral := range []api.Ratio{zero, one} {
			result, _ := o.run(r, neutral)
			results = append(results, result.Num)
		}
	}
	for i, s := range results {
		if unsafe.StringData(s) == unsafe.StringData(digits) {
			t.Errorf("result %d is the argument", i)
		}
	}
}

// R3, R4: the same calls return the same results again, whatever was called in between.
func TestRepeated(t *testing.T) {
	a, b := parsed(strings.Repeat("98765", 15)+"/"+strings.Repeat("1234", 17)+"7"), parsed("-"+strings.Repeat("321", 20)+"/7")
	results := func() string {
		var s strings.Builder
		for _, o := range operations() {
			r, _ := o.run(a, b)
			s.WriteString(rational.Print(r) + " ")
		}
		down, _ := rational.Down(a, 9)
		up, _ := rational.Up(b, 9)
		s.WriteString(rational.Print(down) + " " + rational.Print(up) + " " + strconv.Itoa(rational.Compare(a, b)))
		return s.String()
	}
	first := results()
	for range 3 {
		rational.Div(a, api.Ratio{Num: "0", Den: "1"})
		rational.Add(api.Ratio{}, b)
		rational.Parse("6/4")
		if again := results(); again != first {
			t.Fatalf("first %s, then %s", first, again)
		}
	}
}

package enclosure_test

import (
	"math/big"
	"math/rand"
	"strings"
	"testing"
	"unsafe"

	"yardstick/api"
	"yardstick/enclosure"
)

// rat returns the number that s stands for, as Go's library has it; it may be in lowest terms or not.
func rat(s string) *big.Rat {
	x, ok := new(big.Rat).SetString(s)
	if !ok {
		panic("no fraction: " + s)
	}
	return x
}

// ratio returns the fraction with the value x.
func ratio(x *big.Rat) api.Ratio {
	return api.Ratio{Num: x.Num().String(), Den: x.Denom().String()}
}

// value returns the value of a valid fraction.
func value(r api.Ratio) *big.Rat {
	return rat(r.Num + "/" + r.Den)
}

// span returns the interval from lo to hi.
func span(lo, hi *big.Rat) api.Interval {
	return api.Interval{Lo: ratio(lo), Hi: ratio(hi)}
}

// interval returns the interval whose ends are written in s, or the interval of the only fraction in it.
func interval(s string) api.Interval {
	ends := strings.Fields(s)
	return span(rat(ends[0]), rat(ends[len(ends)-1]))
}

// ten returns 1 with that many zeros behind it.
func ten(zeros int) string {
	return "1" + strings.Repeat("0", zeros)
}

// whole returns the number that s stands for.
func whole(s string) *big.Int {
	return rat(s).Num()
}

// fit reports whether all parts have at most 200 digits.
func fit(parts ...*big.Int) bool {
	for _, n := range parts {
		if n.CmpAbs(whole(ten(api.MaxDigits))) >= 0 {
			return false
		}
	}
	return true
}

// random returns an interval whose ends have parts of at most that many digits: on both sides of 0, on one, or one
// fraction.
func random(source *rand.Rand, digits int) api.Interval {
	lo, hi := randomRat(source, digits), randomRat(source, digits)
	switch source.Intn(6) {
	case 0:
		hi = lo
	case 1:
		lo, hi = lo.Abs(lo), hi.Abs(hi)
	case 2:
		lo, hi = lo.Neg(lo.Abs(lo)), hi.Neg(hi.Abs(hi))
	}
	if lo.Cmp(hi) > 0 {
		lo, hi = hi, lo
	}
	return span(lo, hi)
}

func randomRat(source *rand.Rand, digits int) *big.Rat {
	n := new(big.Int).Rand(source, whole(ten(1+source.Intn(digits))))
	d := new(big.Int).Rand(source, whole(ten(1+source.Intn(digits))))
	d.Add(d, big.NewInt(1))
	if !fit(d) {
		d.SetInt64(1)
	}
	if source.Intn(2) == 0 {
		n.Neg(n)
	}
	return new(big.Rat).SetFrac(n, d)
}

// smallRats returns small fractions of both signs, and 0, in ascending order.
func smallRats() []*big.Rat {
	var l []*big.Rat
	for _, s := range strings.Fields("-3 -2 -1 -2/3 -1/2 0 1/3 1/2 1 2 5/2") {
		l = append(l, rat(s))
	}
	return l
}

// smallIntervals returns all intervals between small fractions.
func smallIntervals() []api.Interval {
	var l []api.Interval
	for i, lo := range smallRats() {
		for _, hi := range smallRats()[i:] {
			l = append(l, span(lo, hi))
		}
	}
	return l
}

// notRatios returns what is no valid fraction.
func notRatios() []api.Ratio {
	l := []api.Ratio{
		{}, {Num: "1"}, {Den: "1"}, {Num: "1", Den: "0"}, {Num: "0", Den: "0"}, {Num: "0", Den: "2"}, {Num: "2", Den: "4"}, {Num: "4", Den: "2"}, {Num: "1", Den: "-2"}, {Num: "-1", Den: "-2"},
		{Num: ten(200), Den: "1"}, {Num: "1", Den: ten(200)}, {Num: "-" + ten(200), Den: "1"}, {Num: strings.Repeat("7", 1<<20), Den: "1"},
	}
	for _, bad := range []string{"+1", "-0", "01", "x", " 1", "1 ", "1/1", "1.0", "-", "\x00"} {
		l = append(l, api.Ratio{Num: bad, Den: "1"}, api.Ratio{Num: "1", Den: bad})
	}
	return l
}

// notIntervals returns what is no valid interval.
func notIntervals() []api.Interval {
	one, two := ratio(rat("1")), ratio(rat("2"))
	l := []api.Interval{
		{}, {Lo: two, Hi: one}, {Lo: one, Hi: ratio(rat("-1"))}, {Lo: ratio(rat("1/2")), Hi: ratio(rat("1/3"))}, {Lo: ratio(rat("0")), Hi: ratio(rat("-1/" + ten(199)))},
		{Lo: ratio(rat(ten(199) + "/7")), Hi: ratio(rat(ten(199) + "/11"))},
	}
	for _, bad := range notRatios() {
		l = append(l, api.Interval{Lo: bad, Hi: two}, api.Interval{Lo: one, Hi: bad}, api.Interval{Lo: bad, Hi: bad})
	}
	return l
}

func wantInterval(t *testing.T, call string, got api.Interval, err api.Errno, want api.Interval) {
	t.Helper()
	if got != want || err != api.OK || !enclosure.Valid(got) {
		t.Fatalf("%s = %s, %d; want %s", call, shown("", got), err, shown("", want))
	}
}

// wantRefused checks that a result, an interval or a fraction, is a zero value with the error.
func wantRefused[T comparable](t *testing.T, call string, got T, err api.Errno) {
	t.Helper()
	var zero T
	if got != zero || err != api.ErrEnclosure {
		t.Fatalf("%s = %v, %d; want ErrEnclosure", call, got, err)
	}
}

// shown returns a call in writing, with no more of its arguments than a valid one has.
func shown(name string, arguments ...api.Interval) string {
	for _, x := range arguments {
		name += " ["
		for i, s := range []string{x.Lo.Num, "/", x.Lo.Den, ", ", x.Hi.Num, "/", x.Hi.Den, "]"} {
			name += s[:min(len(s), 202-i)]
		}
	}
	return name
}

// P5.1: what is valid.
func TestValid(t *testing.T) {
	for _, x := range notIntervals() {
		if enclosure.Valid(x) {
			t.Errorf("%s is valid", shown("", x))
		}
	}
	for _, lo := range smallRats() {
		for _, hi := range smallRats() {
			if got, want := enclosure.Valid(span(lo, hi)), lo.Cmp(hi) <= 0; got != want {
				t.Errorf("%s = %t", shown("Valid", span(lo, hi)), got)
			}
		}
	}
	// The crosswise products of these ends have 400 digits.
	near, most := rat("1"+strings.Repeat("0", 198)+"1/"+strings.Repeat("9", 200)), strings.Repeat("9", 200)
	for _, x := range []api.Interval{span(near, near), span(near, rat(most)), interval("-" + most + " -1/" + most), span(near, rat("1"+strings.Repeat("0", 198)+"2/"+strings.Repeat("9", 200)))} {
		if !enclosure.Valid(x) || x.Lo != x.Hi && enclosure.Valid(api.Interval{Lo: x.Hi, Hi: x.Lo}) {
			t.Errorf("%s", shown("Valid", x))
		}
	}
}

// P5.1: Point, also of what is no valid fraction.
func TestPoint(t *testing.T) {
	for _, r := range append(smallRats(), rat(ten(199)+"/7"), rat("-7/"+ten(199))) {
		if got := enclosure.Point(ratio(r)); got != span(r, r) {
			t.Errorf("Point(%v) = %v", r, got)
		}
	}
	for _, bad := range notRatios() {
		if got := enclosure.Point(bad); got != (api.Interval{}) {
			t.Errorf("%s of no fraction", shown("Point", api.Interval{Lo: bad}))
		}
	}
}

// P5.1: Contains of all small intervals and fractions, and next to long ends.
func TestContains(t *testing.T) {
	for _, x := range smallIntervals() {
		for _, r := range smallRats() {
			want := value(x.Lo).Cmp(r) <= 0 && r.Cmp(value(x.Hi)) <= 0
			if got := enclosure.Contains(x, ratio(r)); got != want {
				t.Errorf("%s of %v = %t", shown("Contains", x), r, got)
			}
		}
	}
	x := interval("1/3 " + strings.Repeat("9", 199) + "8/7")
	for r, want := range map[string]bool{strings.Repeat("3", 199) + "/" + ten(199): false, strings.Repeat("3", 198) + "4/" + ten(199): true, strings.Repeat("9", 200) + "/7": false, strings.Repeat("9", 199) + "7/7": true} {
		if enclosure.Contains(x, ratio(rat(r))) != want {
			t.Errorf("%s of %s = %t", shown("Contains", x), r, !want)
		}
	}
}

// P5.1: Within of all small intervals.
func TestWithin(t *testing.T) {
	for _, a := range smallIntervals() {
		for _, b := range smallIntervals() {
			want := value(b.Lo).Cmp(value(a.Lo)) <= 0 && value(a.Hi).Cmp(value(b.Hi)) <= 0
			if got := enclosure.Within(a, b); got != want {
				t.Errorf("%s = %t", shown("Within", a, b), got)
			}
		}
	}
}

// P5.1: nothing is contained in what is not valid, and nothing that is not valid is contained.
func TestContainsInvalid(t *testing.T) {
	wide := interval("-" + ten(199) + " " + ten(199))
	for _, bad := range notRatios() {
		if enclosure.Contains(wide, bad) {
			t.Errorf("%s", shown("Contains", api.Interval{Lo: bad}))
		}
	}
	for _, bad := range notIntervals() {
		for _, r := range append(smallRats(), rat("3/2")) {
			if enclosure.Contains(bad, ratio(r)) {
				t.Errorf("%s of %v", shown("Contains", bad), r)
			}
		}
		for _, other := range append(smallIntervals(), wide, bad) {
			if enclosure.Within(bad, other) || enclosure.Within(other, bad) {
				t.Errorf("%s", shown("Within", bad, other))
			}
		}
	}
}

// P5.1: the examples of the chapter.
func TestExamples(t *testing.T) {
	for _, c := range []struct {
		call string
		run  func(a, b api.Interval) (api.Interval, api.Errno)
		a, b string
		want string
	}{
		{"Mul", enclosure.Mul, "-2 3", "-5 1", "-15 10"},
		{"Div", enclosure.Div, "1 2", "-1 4", ""}, {"Div", enclosure.Div, "1 2", "2 4", "1/4 1"},
		{"Sqrt", places(enclosure.Sqrt, 1), "2 3", "0", "7/5 9/5"}, {"Sqrt", places(enclosure.Sqrt, 3), "4", "0", "2"},
		{"Meet", enclosure.Meet, "1 2", "2 5", "2"}, {"Meet", enclosure.Meet, "1 2", "3 5", ""},
		{"Round", places(enclosure.Round, 1), "1/3 2/3", "0", "3/10 7/10"},
	} {
		got, err := c.run(interval(c.a), interval(c.b))
		if c.want == "" {
			wantRefused(t, c.call, got, err)
		} else {
			wantInterval(t, c.call, got, err, interval(c.want))
		}
	}
}

// places returns the function with a number of places, as one of two intervals, the second of which is ignored.
func places(f func(api.Interval, int) (api.Interval, api.Errno), n int) func(a, b api.Interval) (api.Interval, api.Errno) {
	return func(a, _ api.Interval) (api.Interval, api.Errno) { return f(a, n) }
}

// functions returns all functions with an interval and an error as their results.
func functions() map[string]func(a, b api.Interval) (api.Interval, api.Errno) {
	return map[string]func(a, b api.Interval) (api.Interval, api.Errno){
		"Add": enclosure.Add, "Sub": enclosure.Sub, "Mul": enclosure.Mul, "Div": enclosure.Div, "Hull": enclosure.Hull, "Meet": enclosure.Meet,
		"Sqrt": places(enclosure.Sqrt, 2), "Round": places(enclosure.Round, 0),
	}
}

// P5.1: what is no valid interval, in each place.
func TestRefused(t *testing.T) {
	good := []api.Interval{interval("1 2"), interval("1/2"), interval("1/" + ten(199) + " " + ten(199))}
	for _, bad := range notIntervals() {
		for name, f := range functions() {
			for _, other := range append(good, bad) {
				got, err := f(bad, other)
				wantRefused(t, shown(name, bad, other), got, err)
				if name == "Sqrt" || name == "Round" {
					continue
				}
				got, err = f(other, bad)
				wantRefused(t, shown(name, other, bad), got, err)
			}
		}
		width, err := enclosure.Width(bad)
		wantRefused(t, shown("Width", bad), width, err)
		for _, n := range []int{-1, 0, 30, 31} {
			got, err := enclosure.Sqrt(bad, n)
			wantRefused(t, shown("Sqrt", bad), got, err)
			got, err = enclosure.Round(bad, n)
			wantRefused(t, shown("Round", bad), got, err)
		}
	}
}

// R3: a result is new memory, of an argument as well as of its other end.
func TestNewMemory(t *testing.T) {
	long := strings.Repeat("321", 20) + "/" + strings.Repeat("7", 50)
	a, zero, one := interval(long), interval("0"), interval("1")
	results := map[string]api.Interval{"Point": enclosure.Point(a.Lo)}
	for name, f := range functions() {
		b := a
		switch name {
		case "Add", "Sub":
			b = zero
		case "Mul", "Div":
			b = one
		}
		results[name], _ = f(a, b)
	}
	for name, x := range results {
		seen := map[*byte]bool{}
		for _, s := range []string{a.Lo.Num, a.Lo.Den, a.Hi.Num, a.Hi.Den} {
			seen[unsafe.StringData(s)] = true
		}
		for _, s := range []string{x.Lo.Num, x.Lo.Den, x.Hi.Num, x.Hi.Den} {
			// Strings of one byte may be shared by all of a Go program.
			if len(s) > 1 && seen[unsafe.StringData(s)] {
				t.Errorf("%s shares memory", name)
			}
			seen[unsafe.StringData(s)] = true
		}
		if x == (api.Interval{}) {
			t.Errorf("%s is refused", name)
		}
	}
}

// R3, R4: the same calls return the same results again, whatever was called in between.
func TestRepeated(t *testing.T) {
	a, b := interval("-"+ten(40)+"/7 "+ten(50)+"/3"), interval("1/"+ten(20)+" 99/7")
	first := map[string]api.Interval{}
	for range 3 {
		for name, f := range functions() {
			got, err := f(b, b)
			if name != "Sqrt" {
				got, err = f(a, b)
			}
			if want, ok := first[name]; err != api.OK || ok && got != want {
				t.Errorf("%s = %v, then %v, %d", name, want, got, err)
			}
			first[name] = got
		}
		enclosure.Div(a, interval("0"))
		enclosure.Meet(interval("1"), interval("2"))
		enclosure.Mul(api.Interval{}, b)
	}
}

package integer_test

import (
	"math"
	"math/big"
	"math/rand"
	"strconv"
	"strings"
	"testing"

	"yardstick/api"
	"yardstick/integer"
)

// number returns the number that s stands for, as Go's library has it.
func number(s string) *big.Int {
	n, ok := new(big.Int).SetString(s, 10)
	if !ok {
		panic("no number: " + s)
	}
	return n
}

// power returns 10 to the power of n.
func power(n int) *big.Int {
	return new(big.Int).Exp(big.NewInt(10), big.NewInt(int64(n)), nil)
}

// plus returns n + m.
func plus(n *big.Int, m int64) *big.Int {
	return new(big.Int).Add(n, big.NewInt(m))
}

func negative(s string) string {
	return new(big.Int).Neg(number(s)).String()
}

// size returns how many digits n has.
func size(n *big.Int) int {
	return len(new(big.Int).Abs(n).String())
}

// notIntegers returns strings that are no valid integers.
func notIntegers() []string {
	l := []string{
		"", "-", "--", "+", "+1", "+0", "-0", "-00", "00", "01", "007", "-01", "-007", "0000", "--1", "-+1", "+-1", "1-", "1-1", "-1-",
		" 1", "1 ", "- 1", "-1 ", "1\n", "\t1", "1\x00", "\x00", "0 ", "0-", "1.0", "1.", ".1", "1,000", "1_000", "1e3", "0x1", "1a", "a", "A",
		"/", ":", "1/", "1:", "/1", ":1", "-/", "-:", "\xb0", "\xb1", "1\xff", "\u0663", "1\u0661", "\uff11", "\u22121", "nil", "Inf", "NaN",
	}
	for _, digits := range []int{201, 202, 204, 205, 400, 1 << 20} {
		l = append(l, strings.Repeat("9", digits), "-"+strings.Repeat("1", digits), strings.Repeat("0", digits), "1"+strings.Repeat("0", digits-1))
	}
	for _, digits := range []int{2, 5, 200} {
		for at := range digits {
			for _, bad := range "/:-+ \x00a" {
				s := []byte(strings.Repeat("5", digits))
				s[at] = byte(bad)
				if at > 0 || bad != '-' {
					l = append(l, string(s))
				}
			}
		}
	}
	return append(l, "0"+strings.Repeat("1", 199), "-0"+strings.Repeat("1", 199), "--"+strings.Repeat("1", 199), "+"+strings.Repeat("1", 199))
}

// randomInteger returns an integer of that many digits, with many groups of digits that are extreme.
func randomInteger(random *rand.Rand, digits int) string {
	var s strings.Builder
	s.WriteByte(byte('1' + random.Intn(9)))
	for s.Len() < digits {
		for _, d := range []byte("09")[:random.Intn(3)] {
			s.WriteString(strings.Repeat(string(d), random.Intn(9)))
		}
		s.WriteString(strconv.Itoa(random.Intn(100000)))
	}
	return s.String()[:digits]
}

// someIntegers returns valid integers: small ones, those near powers of ten, and others, of both signs.
func someIntegers() []string {
	l := []string{"0"}
	add := func(n *big.Int) {
		if size(n) <= api.MaxDigits && n.Sign() > 0 {
			l = append(l, n.String(), "-"+n.String())
		}
	}
	for _, n := range []int64{1, 2, 3, 5, 7, 12, 18, 99, 4999, 5000, 5001, 12345, 99989999, 99990000, 99990001, math.MaxInt64} {
		add(big.NewInt(n))
	}
	for _, k := range []int{1, 3, 4, 5, 7, 8, 9, 12, 16, 20, 40, 99, 100, 101, 196, 199, 200} {
		for d := int64(-1); d <= 1; d++ {
			add(plus(power(k), d))
		}
	}
	random := rand.New(rand.NewSource(3))
	for range 40 {
		add(number(randomInteger(random, 1+random.Intn(api.MaxDigits))))
	}
	return l
}

// wantResult checks a result, which is refused exactly if it has more than 200 digits.
func wantResult(t *testing.T, call string, a, b string, got string, err api.Errno, want *big.Int) {
	t.Helper()
	if size(want) > api.MaxDigits {
		wantRefused(t, call, a, b, got, err)
	} else if got != want.String() || err != api.OK || !integer.Valid(got) {
		t.Fatalf("%s(%s, %s) = %s, %d; want %s", call, a, b, got, err, want)
	}
}

func wantRefused(t *testing.T, call string, a, b string, got string, err api.Errno) {
	t.Helper()
	if got != "" || err != api.ErrInteger {
		t.Fatalf("%s(%.300q, %.300q) = %q, %d; want ErrInteger", call, a, b, got, err)
	}
}

// checkPair checks all functions of two integers against the library.
func checkPair(t *testing.T, a, b string) {
	t.Helper()
	x, y := number(a), number(b)
	sum, err := integer.Add(a, b)
	wantResult(t, "Add", a, b, sum, err, new(big.Int).Add(x, y))
	difference, err := integer.Sub(a, b)
	wantResult(t, "Sub", a, b, difference, err, new(big.Int).Sub(x, y))
	product, err := integer.Mul(a, b)
	wantResult(t, "Mul", a, b, product, err, new(big.Int).Mul(x, y))
	gcd, err := integer.Gcd(a, b)
	wantResult(t, "Gcd", a, b, gcd, err, new(big.Int).GCD(nil, nil, new(big.Int).Abs(x), new(big.Int).Abs(y)))
	if got := integer.Compare(a, b); got != x.Cmp(y) {
		t.Fatalf("Compare(%s, %s) = %d", a, b, got)
	}
	q, r, err := integer.Div(a, b)
	if y.Sign() == 0 {
		wantRefused(t, "Div", a, b, q+r, err)
		return
	}
	quotient, rest := new(big.Int).DivMod(x, y, new(big.Int))
	wantResult(t, "Div", a, b, q, err, quotient)
	wantResult(t, "Div", a, b, r, err, rest)
}

// P3.1, P3.2: what is valid.
func TestValid(t *testing.T) {
	for _, s := range notIntegers() {
		if integer.Valid(s) {
			t.Errorf("%.300q is valid", s)
		}
	}
	for _, s := range someIntegers() {
		if !integer.Valid(s) {
			t.Errorf("%s is not valid", s)
		}
	}
	for d := range 10 {
		digit := strconv.Itoa(d)
		for n := range api.MaxDigits {
			s := "1" + strings.Repeat(digit, n)
			if !integer.Valid(s) || !integer.Valid("-"+s) {
				t.Errorf("%s is not valid", s)
			}
		}
		if !integer.Valid(digit) || integer.Valid("-"+digit) != (d > 0) || integer.Valid("0"+digit) || integer.Valid("-0"+digit) {
			t.Errorf("the digit %d", d)
		}
	}
}

// P3.1, P3.2: all strings of up to 4 of some bytes are valid if and only if they are what a number is written as.
func TestValidOnlyOne(t *testing.T) {
	some := "019-+/:a "
	last := []string{""}
	for range 4 {
		var longer []string
		for _, s := range last {
			for i := range len(some) {
				longer = append(longer, s+some[i:i+1])
			}
		}
		for _, s := range longer {
			n, err := strconv.Atoi(s)
			if integer.Valid(s) != (err == nil && strconv.Itoa(n) == s) {
				t.Errorf("Valid(%q) = %t", s, integer.Valid(s))
			}
		}
		last = longer
	}
}

// P3.1: strings that are not valid, in each place.
func TestRefused(t *testing.T) {
	for _, bad := range notIntegers() {
		for _, good := range []string{"0", "1", "-1", "12345", strings.Repeat("9", 200), bad} {
			for _, c := range [][2]string{{bad, good}, {good, bad}} {
				a, b := c[0], c[1]
				for call, f := range map[string]func(string, string) (string, api.Errno){"Add": integer.Add, "Sub": integer.Sub, "Mul": integer.Mul, "Gcd": integer.Gcd} {
					s, err := f(a, b)
					wantRefused(t, call, a, b, s, err)
				}
				q, r, err := integer.Div(a, b)
				wantRefused(t, "Div", a, b, q+r, err)
				if n := integer.Compare(a, b); n != 0 {
					t.Errorf("Compare(%.300q, %.300q) = %d", a, b, n)
				}
			}
		}
		s, err := integer.Root(bad)
		wantRefused(t, "Root", bad, "", s, err)
		if n, err := integer.ToInt(bad); n != 0 || err != api.ErrInteger {
			t.Errorf("ToInt(%.300q) = %d, %d", bad, n, err)
		}
	}
}

// P3.1: the examples of the chapter.
func TestExamples(t *testing.T) {
	for s, want := range map[string]bool{"0": true, "-7": true, "007": false, "-0": false, "+1": false, "": false} {
		if integer.Valid(s) != want {
			t.Errorf("Valid(%q) = %t", s, !want)
		}
	}
	for _, c := range []struct {
		call       string
		f          func(string, string) (string, api.Errno)
		a, b, want string
	}{
		{"Add", integer.Add, "999", "1", "1000"},
		{"Sub", integer.Sub, "1", "1000", "-999"},
		{"Mul", integer.Mul, "-12", "12", "-144"},
		{"Gcd", integer.Gcd, "12", "-18", "6"},
	} {
		s, err := c.f(c.a, c.b)
		wantResult(t, c.call, c.a, c.b, s, err, number(c.want))
	}
	for _, c := range [][4]string{{"7", "2", "3", "1"}, {"-7", "2", "-4", "1"}, {"7", "-2", "-3", "1"}, {"-7", "-2", "4", "1"}} {
		if q, r, err := integer.Div(c[0], c[1]); q != c[2] || r != c[3] || err != api.OK {
			t.Errorf("Div(%s, %s) = %s, %s, %d", c[0], c[1], q, r, err)
		}
	}
	if s, err := integer.Root("99"); s != "9" || err != api.OK {
		t.Errorf("Root(99) = %s, %d", s, err)
	}
	s, err := integer.Root("-1")
	wantRefused(t, "Root", "-1", "", s, err)
	for _, first := range []string{"1", "9"} {
		a := first + strings.Repeat("0", 100)
		s, err := integer.Mul(a, a)
		wantRefused(t, "Mul", a, a, s, err)
	}
}

// someInts returns numbers near 0, near powers of two and of ten, and near the least and the greatest one.
func someInts() []int {
	l := []int{0, math.MinInt, math.MinInt + 1, math.MaxInt, math.MaxInt - 1}
	ten := 1
	for k := range 62 {
		l = append(l, 1<<k-1, 1<<k, 1<<k+1, 1-1<<k, -1<<k, -1-1<<k)
		if k < 19 {
			l = append(l, ten-1, ten, ten+1, 1-ten, -ten, -1-ten)
			ten *= 10
		}
	}
	random := rand.New(rand.NewSource(1))
	for range 1000 {
		l = append(l, int(random.Uint64())>>random.Intn(64))
	}
	return l
}

// P3.1, P3.2: FromInt and ToInt.
func TestInts(t *testing.T) {
	for _, n := range someInts() {
		s := integer.FromInt(n)
		if s != big.NewInt(int64(n)).String() || !integer.Valid(s) {
			t.Errorf("FromInt(%d) = %s", n, s)
		}
		if m, err := integer.ToInt(s); m != n || err != api.OK {
			t.Errorf("ToInt(%s) = %d, %d", s, m, err)
		}
	}
}

// P3.1: integers that are too far from 0 for ToInt.
func TestToIntRefused(t *testing.T) {
	least, greatest := big.NewInt(math.MinInt64), big.NewInt(math.MaxInt64)
	var l []string
	for d := int64(1); d < 20; d++ {
		l = append(l, plus(greatest, d).String(), plus(least, -d).String())
	}
	for k := 63; k < 600; k++ {
		two := new(big.Int).Lsh(big.NewInt(1), uint(k))
		for d := int64(0); d <= 1; d++ {
			l = append(l, plus(two, d).String(), "-"+plus(two, d+1).String())
		}
	}
	for k := 19; k < api.MaxDigits; k++ {
		l = append(l, power(k).String(), "-"+power(k).String(), plus(power(k+1), -1).String())
	}
	for _, s := range l {
		if n, err := integer.ToInt(s); n != 0 || err != api.ErrInteger {
			t.Errorf("ToInt(%s) = %d, %d; want ErrInteger", s, n, err)
		}
	}
}

// P3.1, P3.2: all functions of two integers, for all pairs of some.
func TestPairs(t *testing.T) {
	l := someIntegers()
	for _, a := range l {
		for _, b := range l {
			checkPair(t, a, b)
		}
	}
}

// P3.1: all pairs of small numbers, in all four pairs of signs.
func TestSmallPairs(t *testing.T) {
	for a := -40; a <= 40; a++ {
		for b := -40; b <= 40; b++ {
			checkPair(t, strconv.Itoa(a), strconv.Itoa(b))
		}
	}
}

// P3.1: numbers with one digit that is not 0, which are carried to and borrowed from through many groups.
func TestCarries(t *testing.T) {
	for i := range 200 {
		ten := power(i)
		for _, d := range []int64{-1, 0, 1} {
			a := plus(ten, d).String()
			for _, b := range []string{"1", "9999", "10000", ten.String(), plus(ten, -1).String()} {
				checkPair(t, a, b)
				checkPair(t, negative(a), b)
				checkPair(t, b, a)
				checkPair(t, negative(b), negative(a))
			}
		}
	}
}

// P3.1: results of exactly 200 digits, and of 201.
func TestLimit(t *testing.T) {
	most, one, ten := strings.Repeat("9", 200), "1", power(199).String()
	for _, c := range []struct {
		call string
		f    func(string, string) (string, api.Errno)
		a, b string
		want string
	}{
		{"Add", integer.Add, most, one, ""},
		{"Add", integer.Add, one, most, ""},
		{"Add", integer.Add, most, "0", most},
		{"Add", integer.Add, "-" + most, "-1", ""},
		{"Add", integer.Add, "-" + most, "0", "-" + most},
		{"Add", integer.Add, "5" + ten[1:], "4" + most[1:], most},
		{"Add", integer.Add, "5" + ten[1:], "5" + ten[1:], ""},
		{"Sub", integer.Sub, most, "-1", ""},
		{"Sub", integer.Sub, "-" + most, one, ""},
		{"Sub", integer.Sub, "0", most, "-" + most},
		{"Sub", integer.Sub, most, most, "0"},
		{"Mul", integer.Mul, most, one, most},
		{"Mul", integer.Mul, most, "-1", "-" + most},
		{"Mul", integer.Mul, ten, "9", "9" + ten[1:]},
		{"Mul", integer.Mul, ten, "10", ""},
		{"Mul", integer.Mul, "5" + ten[1:], "-2", ""},
		{"Mul", integer.Mul, power(100).String(), power(99).String(), ten},
		{"Mul", integer.Mul, power(100).String(), power(100).String(), ""},
		{"Mul", integer.Mul, plus(power(100), 1).String(), plus(power(100), -1).String(), most},
		{"Mul", integer.Mul, plus(power(100), -1).String(), plus(power(100), -1).String(), most[:99] + "8" + strings.Repeat("0", 99) + "1"},
		{"Mul", integer.Mul, most, most, ""},
		{"Mul", integer.Mul, most, "0", "0"},
		{"Gcd", integer.Gcd, most, "-" + most, most},
		{"Gcd", integer.Gcd, "0", "-" + most, most},
		{"Gcd", integer.Gcd, "-" + most, "0", most},
	} {
		if s, err := c.f(c.a, c.b); s != c.want || (err == api.OK) != (c.want != "") || err != api.OK && err != api.ErrInteger {
			t.Errorf("%s(%s, %s) = %s, %d; want %s", c.call, c.a, c.b, s, err, c.want)
		}
	}
	for _, c := range [][2]string{{most, "1"}, {most, "-1"}, {"-" + most, "1"}, {"-" + most, "-1"}, {"-" + most, "2"}, {"-1", most}, {"1", "-" + most}, {"-" + most, most}} {
		checkPair(t, c[0], c[1])
	}
}

// P3.1, P3.2: there is one 0, whatever it is made of.
func TestZero(t *testing.T) {
	for _, a := range someIntegers() {
		checkPair(t, a, "0")
		checkPair(t, "0", a)
		checkPair(t, a, a)
		checkPair(t, a, negative(a))
	}
	if s, err := integer.Root("0"); s != "0" || err != api.OK {
		t.Errorf("Root(0) = %s, %d", s, err)
	}
	if q, r, err := integer.Div("0", "0"); q != "" || r != "" || err != api.ErrInteger {
		t.Errorf("Div(0, 0) = %s, %s, %d", q, r, err)
	}
}

// P3.1, P3.4: divisors and quotients whose groups of digits are extreme, with the least and greatest remainders.
func TestDivGroups(t *testing.T) {
	var parts []string
	some := []string{"0000", "0001", "4999", "5000", "9998", "9999"}
	for _, a := range some {
		for _, b := range some {
			for _, c := range some {
				parts = append(parts, "1"+a+b+c, "9999"+a+b+c, "5000"+a+b, "4999"+a, "2"+b)
			}
		}
	}
	random := rand.New(rand.NewSource(2))
	for range 20000 {
		d, q := number(parts[random.Intn(len(parts))]), number(parts[random.Intn(len(parts))])
		exact := new(big.Int).Mul(d, q)
		for _, r := range []*big.Int{new(big.Int), big.NewInt(1), plus(d, -1)} {
			n := new(big.Int).Add(exact, r).String()
			checkPair(t, n, d.String())
			checkPair(t, "-"+n, d.String())
			checkPair(t, n, "-"+d.String())
			checkPair(t, "-"+n, "-"+d.String())
		}
	}
}

// P3.1, P3.3: sums, differences and products of random numbers, and their laws.
func TestLaws(t *testing.T) {
	random := rand.New(rand.NewSource(4))
	must := func(f func(string, string) (string, api.Errno), a, b string) string {
		s, err := f(a, b)
		if err != api.OK {
			t.Fatalf("error %d for %s and %s", err, a, b)
		}
		return s
	}
	for range 3000 {
		var l [3]string
		for i := range l {
			l[i] = randomInteger(random, 1+random.Intn(66))
			if random.Intn(2) == 0 {
				l[i] = negative(l[i])
			}
		}
		a, b, c := l[0], l[1], l[2]
		for _, f := range []func(string, string) (string, api.Errno){integer.Add, integer.Mul} {
			if must(f, a, b) != must(f, b, a) {
				t.Fatalf("%s and %s do not commute", a, b)
			}
			if must(f, must(f, a, b), c) != must(f, a, must(f, b, c)) {
				t.Fatalf("%s, %s and %s are not associative", a, b, c)
			}
		}
		if must(integer.Mul, a, must(integer.Add, b, c)) != must(integer.Add, must(integer.Mul, a, b), must(integer.Mul, a, c)) {
			t.Fatalf("%s is not distributive over %s and %s", a, b, c)
		}
		if must(integer.Add, b, must(integer.Sub, a, b)) != a || must(integer.Add, must(integer.Sub, a, b), must(integer.Sub, b, a)) != "0" {
			t.Fatalf("%s less %s", a, b)
		}
	}
}

// P3.4: quotients and remainders of random numbers.
func TestDiv(t *testing.T) {
	random := rand.New(rand.NewSource(5))
	for range 5000 {
		a, b := randomInteger(random, 1+random.Intn(200)), randomInteger(random, 1+random.Intn(200))
		if random.Intn(2) == 0 {
			a = "-" + a
		}
		if random.Intn(2) == 0 {
			b = "-" + b
		}
		q, r, err := integer.Div(a, b)
		if err != api.OK || !integer.Valid(q) || !integer.Valid(r) {
			t.Fatalf("Div(%s, %s) = %s, %s, %d", a, b, q, r, err)
		}
		back := new(big.Int).Mul(number(q), number(b))
		if back.Add(back, number(r)).Cmp(number(a)) != 0 || number(r).Sign() < 0 || number(r).CmpAbs(number(b)) >= 0 {
			t.Fatalf("Div(%s, %s) = %s, %s", a, b, q, r)
		}
	}
}

// P3.5: greatest common divisors of numbers with a known common divisor, and of those that need the most steps.
func TestGcd(t *testing.T) {
	random := rand.New(rand.NewSource(6))
	for range 1000 {
		d := number(randomInteger(random, 1+random.Intn(100)))
		a := new(big.Int).Mul(d, number(randomInteger(random, 1+random.Intn(100)))).String()
		b := new(big.Int).Mul(d, number(randomInteger(random, 1+random.Intn(100)))).String()
		for _, c := range [][2]string{{a, b}, {negative(a), b}, {b, negative(a)}, {negative(b), negative(a)}} {
			s, err := integer.Gcd(c[0], c[1])
			if err != api.OK || number(s).Sign() <= 0 {
				t.Fatalf("Gcd(%s, %s) = %s, %d", c[0], c[1], s, err)
			}
			for _, multiple := range []string{a, b} {
				if new(big.Int).Rem(number(multiple), number(s)).Sign() != 0 {
					t.Fatalf("Gcd(%s, %s) = %s does not divide %s", c[0], c[1], s, multiple)
				}
			}
			if new(big.Int).Rem(number(s), d).Sign() != 0 {
				t.Fatalf("%s does not divide Gcd(%s, %s) = %s", d, c[0], c[1], s)
			}
		}
		checkPair(t, a, b)
	}
	small, large := "1", "1"
	for len(large) <= api.MaxDigits {
		checkPair(t, small, large)
		checkPair(t, large, small)
		small, large = large, new(big.Int).Add(number(small), number(large)).String()
	}
}

// checkRoot checks Root against its definition.
func checkRoot(t *testing.T, n *big.Int) {
	t.Helper()
	s, err := integer.Root(n.String())
	if err != api.OK || !integer.Valid(s) {
		t.Fatalf("Root(%s) = %s, %d", n, s, err)
	}
	root, next := number(s), plus(number(s), 1)
	if root.Sign() < 0 || new(big.Int).Mul(root, root).Cmp(n) > 0 || new(big.Int).Mul(next, next).Cmp(n) <= 0 {
		t.Fatalf("Root(%s) = %s", n, s)
	}
}

// P3.6: roots of squares and of their neighbours, and of all small numbers.
func TestRoot(t *testing.T) {
	for n := range 12000 {
		checkRoot(t, big.NewInt(int64(n)))
	}
	var l []*big.Int
	for _, s := range someIntegers() {
		l = append(l, new(big.Int).Abs(number(s)))
	}
	random := rand.New(rand.NewSource(7))
	for k := range 101 {
		l = append(l, power(k), plus(power(k), -1), plus(power(k), 1))
		for range 10 {
			l = append(l, number(randomInteger(random, max(k, 1))))
		}
	}
	for _, n := range l {
		square := new(big.Int).Mul(n, n)
		for d := int64(-2); d <= 2; d++ {
			if m := plus(square, d); m.Sign() >= 0 && size(m) <= api.MaxDigits {
				checkRoot(t, m)
			}
		}
		if size(n) <= api.MaxDigits {
			checkRoot(t, n)
		}
	}
}

// P3.6: negative numbers have no root.
func TestRootRefused(t *testing.T) {
	for _, a := range someIntegers() {
		if a[0] == '-' {
			s, err := integer.Root(a)
			wantRefused(t, "Root", a, "", s, err)
		}
	}
}

// P3.7: Compare is an order that adding keeps, and that the sign of the difference tells.
func TestCompare(t *testing.T) {
	random := rand.New(rand.NewSource(8))
	l := someIntegers()
	for range 20000 {
		a, b, c := l[random.Intn(len(l))], l[random.Intn(len(l))], l[random.Intn(len(l))]
		order := integer.Compare(a, b)
		if order != -integer.Compare(b, a) || (order == 0) != (a == b) || order < -1 || order > 1 {
			t.Fatalf("Compare(%s, %s) = %d", a, b, order)
		}
		if order <= 0 && integer.Compare(b, c) <= 0 && integer.Compare(a, c) > 0 {
			t.Fatalf("%s, %s and %s are in no order", a, b, c)
		}
		if s, err := integer.Sub(a, b); err == api.OK && integer.Compare(s, "0") != order {
			t.Fatalf("Compare(%s, %s) = %d, but the difference is %s", a, b, order, s)
		}
		x, errX := integer.Add(a, c)
		y, errY := integer.Add(b, c)
		if errX == api.OK && errY == api.OK && integer.Compare(x, y) != order {
			t.Fatalf("Compare(%s, %s) = %d, but not with %s added", a, b, order, c)
		}
	}
}

// P3.7: numbers that differ in one digit only.
func TestCompareDigits(t *testing.T) {
	random := rand.New(rand.NewSource(9))
	for digits := 1; digits <= api.MaxDigits; digits++ {
		a := randomInteger(random, digits)
		for i := range digits {
			if a[i] == '9' {
				continue
			}
			b := a[:i] + string(a[i]+1) + a[i+1:]
			if integer.Compare(a, b) != -1 || integer.Compare(b, a) != 1 || integer.Compare("-"+a, "-"+b) != 1 || integer.Compare("-"+b, "-"+a) != -1 || integer.Compare("-"+b, a) != -1 || integer.Compare(b, "-"+a) != 1 {
				t.Fatalf("Compare of %s and %s", a, b)
			}
		}
	}
}

// R3, R4: the same calls return the same results again, whatever was called in between.
func TestRepeated(t *testing.T) {
	a, b := strings.Repeat("98765", 20), "-"+strings.Repeat("1234", 15)
	results := func() string {
		sum, _ := integer.Add(a, b)
		difference, _ := integer.Sub(a, b)
		product, _ := integer.Mul(a, b)
		q, r, _ := integer.Div(a, b)
		gcd, _ := integer.Gcd(a, b)
		root, _ := integer.Root(a)
		return strings.Join([]string{sum, difference, product, q, r, gcd, root, strconv.Itoa(integer.Compare(a, b))}, " ")
	}
	first := results()
	for range 3 {
		checkPair(t, b, a)
		integer.Div("x", "0")
		if again := results(); again != first {
			t.Fatalf("first %s, then %s", first, again)
		}
	}
}

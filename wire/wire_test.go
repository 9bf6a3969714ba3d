package wire_test

import (
	"math"
	"math/rand"
	"strings"
	"testing"

	"yardstick/api"
	"yardstick/wire"
)

// someInts returns integers near 0, near the limits, and near each power of 2.
func someInts() []int {
	l := []int{0, 1, -1, 150, api.MaxInt, api.MaxInt - 1, -api.MaxInt, -api.MaxInt + 1}
	for k := range 62 {
		p := 1 << k
		l = append(l, p-1, p, p+1, -p-1, -p, -p+1)
	}
	random := rand.New(rand.NewSource(1))
	for range 2000 {
		n := int(random.Uint64()>>2) >> random.Intn(62)
		l = append(l, n, -n)
	}
	var valid []int
	for _, n := range l {
		if n >= -api.MaxInt && n <= api.MaxInt {
			valid = append(valid, n)
		}
	}
	return valid
}

// slowCode is the encoding of n by its definition, with z written out in binary digits first.
func slowCode(n int) string {
	z := 2 * uint64(n)
	if n < 0 {
		z = 2*uint64(-n) - 1
	}
	var bits []byte
	for ; z > 0; z /= 2 {
		bits = append(bits, byte(z%2))
	}
	for len(bits) == 0 || len(bits)%7 != 0 {
		bits = append(bits, 0)
	}
	var code []byte
	for i := 0; i < len(bits); i += 7 {
		b := byte(0)
		for j := range 7 {
			b |= bits[i+j] << j
		}
		if i+7 < len(bits) {
			b += 128
		}
		code = append(code, b)
	}
	return string(code)
}

func mustPutInt(t *testing.T, n int) string {
	t.Helper()
	s, err := wire.PutInt(n)
	if err != api.OK {
		t.Fatalf("PutInt(%d): error %d", n, err)
	}
	return s
}

func mustPutString(t *testing.T, s string) string {
	t.Helper()
	code, err := wire.PutString(s)
	if err != api.OK {
		t.Fatalf("PutString(%.20q): error %d", s, err)
	}
	return code
}

func wantInt(t *testing.T, s string, at int, n int, next int) {
	t.Helper()
	if m, end, err := wire.Int(s, at); m != n || end != next || err != api.OK {
		t.Fatalf("Int(%.40q, %d) = %d, %d, %d; want %d, %d", s, at, m, end, err, n, next)
	}
}

func wantNoInt(t *testing.T, s string, at int, want api.Errno) {
	t.Helper()
	if m, end, err := wire.Int(s, at); m != 0 || end != 0 || err != want {
		t.Fatalf("Int(%.40q, %d) = %d, %d, %d; want error %d", s, at, m, end, err, want)
	}
}

func wantString(t *testing.T, s string, at int, u string, next int) {
	t.Helper()
	if v, end, err := wire.String(s, at); v != u || end != next || err != api.OK {
		t.Fatalf("String(%.40q, %d) = %.40q, %d, %d; want %.40q, %d", s, at, v, end, err, u, next)
	}
}

func wantNoString(t *testing.T, s string, at int, want api.Errno) {
	t.Helper()
	if v, end, err := wire.String(s, at); v != "" || end != 0 || err != want {
		t.Fatalf("String(%.40q, %d) = %.40q, %d, %d; want error %d", s, at, v, end, err, want)
	}
}

// P1.1: the examples of the chapter, and the ends of each number of groups.
func TestPutIntExamples(t *testing.T) {
	for _, c := range []struct {
		n    int
		code string
	}{
		{0, "\x00"}, {-1, "\x01"}, {1, "\x02"}, {-2, "\x03"}, {63, "\x7e"}, {-64, "\x7f"},
		{64, "\x80\x01"}, {-65, "\x81\x01"}, {150, "\xac\x02"},
		{8191, "\xfe\x7f"}, {-8192, "\xff\x7f"}, {8192, "\x80\x80\x01"}, {-8193, "\x81\x80\x01"},
		{1<<55 - 1, "\xfe\xff\xff\xff\xff\xff\xff\x7f"}, {1 << 55, "\x80\x80\x80\x80\x80\x80\x80\x80\x01"},
		{api.MaxInt - 1, "\xfc\xff\xff\xff\xff\xff\xff\xff\x7f"},
		{api.MaxInt, "\xfe\xff\xff\xff\xff\xff\xff\xff\x7f"},
		{-api.MaxInt, "\xfd\xff\xff\xff\xff\xff\xff\xff\x7f"},
	} {
		if code := mustPutInt(t, c.n); code != c.code {
			t.Errorf("PutInt(%d) = %x, want %x", c.n, code, c.code)
		}
		wantInt(t, c.code, 0, c.n, len(c.code))
	}
}

// P1.1: PutInt against its definition.
func TestPutIntDefinition(t *testing.T) {
	for _, n := range someInts() {
		if code := mustPutInt(t, n); code != slowCode(n) {
			t.Errorf("PutInt(%d) = %x, want %x", n, code, slowCode(n))
		}
	}
}

// P1.1: integers that have no encoding.
func TestPutIntErrors(t *testing.T) {
	for _, n := range []int{api.MaxInt + 1, -api.MaxInt - 1, api.MaxInt + 2, -api.MaxInt - 2, math.MaxInt, math.MinInt, math.MinInt + 1} {
		if s, err := wire.PutInt(n); s != "" || err != api.ErrWire {
			t.Errorf("PutInt(%d) = %x, %d; want ErrWire", n, s, err)
		}
	}
}

// P1.1: offsets that are none come first, whatever s is.
func TestIntOffsets(t *testing.T) {
	for _, s := range []string{"", "\x02", "\x80", "\x80\x00", "\x02\x04\x06"} {
		for _, at := range []int{-1, -2, len(s) + 1, len(s) + 2, math.MinInt, math.MaxInt} {
			wantNoInt(t, s, at, api.ErrArg)
		}
		wantNoInt(t, s, len(s), api.ErrWire)
	}
	for at := range 3 {
		wantInt(t, "\x02\x04\x06", at, at+1, at+1)
	}
}

// P1.1: encodings that end early.
func TestIntEndsEarly(t *testing.T) {
	for _, n := range someInts() {
		code := mustPutInt(t, n)
		for size := range len(code) {
			wantNoInt(t, code[:size], 0, api.ErrWire)
			wantNoInt(t, "ab"+code[:size], 2, api.ErrWire)
		}
	}
	for size := range 40 {
		wantNoInt(t, strings.Repeat("\x80", size), 0, api.ErrWire)
		wantNoInt(t, strings.Repeat("\xff", size), 0, api.ErrWire)
	}
}

// P1.1: superfluous zero groups, one or more, whether they fit into 9 groups or not.
func TestIntSuperfluousGroups(t *testing.T) {
	wantNoInt(t, "\x80\x00", 0, api.ErrWire)
	for _, n := range someInts() {
		code := []byte(mustPutInt(t, n))
		code[len(code)-1] += 128
		for zeros := range 20 {
			s := string(code) + strings.Repeat("\x80", zeros) + "\x00"
			wantNoInt(t, s, 0, api.ErrWire)
			wantNoInt(t, "x"+s+"\x00", 1, api.ErrWire)
		}
	}
}

// P1.1: what is next to MaxInt and -MaxInt, and what has more than 63 bits.
func TestIntTooLarge(t *testing.T) {
	for _, s := range []string{
		"\xff\xff\xff\xff\xff\xff\xff\xff\x7f",     // -MaxInt - 1
		"\x80\x80\x80\x80\x80\x80\x80\x80\x80\x01", // MaxInt + 1
		"\x81\x80\x80\x80\x80\x80\x80\x80\x80\x01",
		"\x82\x80\x80\x80\x80\x80\x80\x80\x80\x01",
		"\xff\xff\xff\xff\xff\xff\xff\xff\xff\x01", // 2^64 - 1
		"\x80\x80\x80\x80\x80\x80\x80\x80\x80\x02", // 2^64: 0 if it wrapped around
		"\x82\x80\x80\x80\x80\x80\x80\x80\x80\x02",
		"\x80\x80\x80\x80\x80\x80\x80\x80\x80\x80\x01",
		strings.Repeat("\x80", 1000) + "\x01",
		strings.Repeat("\xff", 1000) + "\x7f",
	} {
		wantNoInt(t, s, 0, api.ErrWire)
		wantNoInt(t, "\x00"+s+"\x00", 1, api.ErrWire)
	}
}

// P1.2: the examples of the chapter, and all lengths near those at which the encoding of the length grows.
func TestPutString(t *testing.T) {
	for _, c := range []struct{ s, code string }{
		{"", "\x00"}, {"a", "\x02a"}, {"ab", "\x04ab"}, {"\x00", "\x02\x00"}, {"\xff\x80", "\x04\xff\x80"},
		{strings.Repeat("x", 63), "\x7e" + strings.Repeat("x", 63)},
		{strings.Repeat("x", 64), "\x80\x01" + strings.Repeat("x", 64)},
		{strings.Repeat("x", 8191), "\xfe\x7f" + strings.Repeat("x", 8191)},
		{strings.Repeat("x", 8192), "\x80\x80\x01" + strings.Repeat("x", 8192)},
		{strings.Repeat("x", api.MaxString-1), "\xfe\xff\x07" + strings.Repeat("x", api.MaxString-1)},
		{strings.Repeat("x", api.MaxString), "\x80\x80\x08" + strings.Repeat("x", api.MaxString)},
	} {
		if code := mustPutString(t, c.s); code != c.code {
			t.Errorf("PutString(%.20q) = %.20q, want %.20q", c.s, code, c.code)
		}
		wantString(t, c.code, 0, c.s, len(c.code))
		wantString(t, "ab"+c.code+"c", 2, c.s, len(c.code)+2)
	}
}

// P1.2: strings that have no encoding.
func TestPutStringErrors(t *testing.T) {
	for _, size := range []int{api.MaxString + 1, api.MaxString + 2, 2 * api.MaxString, 1 << 22} {
		if s, err := wire.PutString(strings.Repeat("x", size)); s != "" || err != api.ErrWire {
			t.Errorf("PutString of %d bytes: %d bytes, error %d; want ErrWire", size, len(s), err)
		}
	}
}

// P1.2: offsets that are none come first, whatever s is.
func TestStringOffsets(t *testing.T) {
	for _, s := range []string{"", "\x00", "\x04ab", "\x04a", "\x01", "\x80\x00"} {
		for _, at := range []int{-1, -2, len(s) + 1, len(s) + 2, math.MinInt, math.MaxInt} {
			wantNoString(t, s, at, api.ErrArg)
		}
		wantNoString(t, s, len(s), api.ErrWire)
	}
	wantString(t, "\x04abc", 0, "ab", 3)
	wantString(t, "x\x00", 1, "", 2)
}

// P1.2: no encoding of a length, a negative one, and one that is too large.
func TestStringBadLengths(t *testing.T) {
	rest := strings.Repeat("x", api.MaxString+10)
	for _, n := range []int{-1, -2, -64, -api.MaxInt, api.MaxString + 1, api.MaxString + 2, 1 << 31, api.MaxInt} {
		wantNoString(t, mustPutInt(t, n)+rest, 0, api.ErrWire)
		wantNoString(t, "x"+mustPutInt(t, n)+rest, 1, api.ErrWire)
	}
	for _, s := range []string{"\x80\x00", "\x84\x00ab", "\x84", "\xff\xff\xff\xff\xff\xff\xff\xff\x7f", "\x80\x80\x80\x80\x80\x80\x80\x80\x80\x02"} {
		wantNoString(t, s, 0, api.ErrWire)
	}
	wantNoString(t, "\x84\x00"+rest, 0, api.ErrWire)
}

// P1.2: encodings that end early.
func TestStringEndsEarly(t *testing.T) {
	wantNoString(t, "\x04a", 0, api.ErrWire)
	for _, size := range []int{0, 1, 2, 63, 64, 65, 8191, 8192} {
		code := mustPutString(t, strings.Repeat("x", size))
		for end := range len(code) {
			wantNoString(t, code[:end], 0, api.ErrWire)
			wantNoString(t, "\x00"+code[:end], 1, api.ErrWire)
		}
	}
	code := mustPutString(t, strings.Repeat("x", api.MaxString))
	wantNoString(t, code[:len(code)-1], 0, api.ErrWire)
}

// P1.4: Int returns what PutInt was given, whatever surrounds the encoding.
func TestIntSurrounded(t *testing.T) {
	around := []string{"", "\x00", "\x01", "\x7f", "\x80", "\xff", "\xff\xff\xff\xff\xff\xff\xff\xff\xff\xff", "text"}
	for _, n := range someInts() {
		code := mustPutInt(t, n)
		for _, before := range around {
			for _, after := range around {
				wantInt(t, before+code+after, len(before), n, len(before)+len(code))
			}
		}
	}
}

// P1.4: no encoding begins with another one, and no two are equal.
func TestPrefixFree(t *testing.T) {
	given := map[string]int{}
	for n := -70000; n <= 70000; n++ {
		given[mustPutInt(t, n)] = n
	}
	for _, n := range someInts() {
		given[mustPutInt(t, n)] = n
	}
	for code, n := range given {
		wantInt(t, code, 0, n, len(code))
		for size := range len(code) {
			if m, ok := given[code[:size]]; ok {
				t.Fatalf("the encoding of %d begins with that of %d", n, m)
			}
		}
	}
}

// checkAccepted checks that what Int and String accept at the beginning of s is what PutInt and PutString return.
func checkAccepted(t *testing.T, s string) {
	t.Helper()
	if n, next, err := wire.Int(s, 0); err == api.OK {
		if code := mustPutInt(t, n); code != s[:next] {
			t.Fatalf("Int accepts %x for %d, which is encoded as %x", s[:next], n, code)
		}
	} else {
		wantNoInt(t, s, 0, api.ErrWire)
	}
	if u, next, err := wire.String(s, 0); err == api.OK {
		if code := mustPutString(t, u); code != s[:next] {
			t.Fatalf("String accepts %x for %q, which is encoded as %x", s[:next], u, code)
		}
	} else {
		wantNoString(t, s, 0, api.ErrWire)
	}
}

// P1.4: all strings of up to 2 bytes, and all strings of up to 6 of some bytes.
func TestAcceptsOnlyEncodings(t *testing.T) {
	checkAccepted(t, "")
	for a := range 256 {
		checkAccepted(t, string([]byte{byte(a)}))
		for b := range 256 {
			checkAccepted(t, string([]byte{byte(a), byte(b)}))
		}
	}
	some := "\x00\x01\x02\x7f\x80\x81\xff"
	last := []string{""}
	for range 6 {
		var longer []string
		for _, s := range last {
			for i := range len(some) {
				longer = append(longer, s+some[i:i+1])
			}
		}
		for _, s := range longer {
			checkAccepted(t, s)
		}
		last = longer
	}
}

// P1.4: strings of 8 groups that go on, with any two bytes after them.
func TestAcceptsOnlyLongEncodings(t *testing.T) {
	for _, begin := range []string{strings.Repeat("\x80", 8), strings.Repeat("\xff", 8), "\x81" + strings.Repeat("\x80", 7)} {
		for a := range 256 {
			for b := range 256 {
				checkAccepted(t, begin+string([]byte{byte(a), byte(b)}))
			}
		}
	}
}

// P1.4: a concatenation of encodings is decoded unambiguously.
func TestConcatenation(t *testing.T) {
	random := rand.New(rand.NewSource(2))
	for range 300 {
		var texts []string
		var numbers []int
		var code strings.Builder
		for range random.Intn(20) {
			text := make([]byte, random.Intn(200))
			random.Read(text)
			n := int(random.Uint64()>>2)>>random.Intn(62) - random.Intn(1000)
			texts, numbers = append(texts, string(text)), append(numbers, n)
			code.WriteString(mustPutString(t, string(text)) + mustPutInt(t, n))
		}
		s, at := code.String(), 0
		for i := range texts {
			next := at + len(mustPutString(t, texts[i]))
			wantString(t, s, at, texts[i], next)
			at = next + len(mustPutInt(t, numbers[i]))
			wantInt(t, s, next, numbers[i], at)
		}
		if at != len(s) {
			t.Fatalf("decoded %d of %d bytes", at, len(s))
		}
	}
}

// R3, R4: the same calls return the same results again.
func TestRepeated(t *testing.T) {
	s := "x" + mustPutInt(t, -150) + mustPutString(t, "some text")
	for range 3 {
		wantInt(t, s, 1, -150, 3)
		wantString(t, s, 3, "some text", len(s))
		if wire.Sum(s) != wire.Sum("x"+s[1:]) {
			t.Fatal("two sums of one string")
		}
	}
}

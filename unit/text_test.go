package unit_test

import (
	"math/rand"
	"regexp"
	"strconv"
	"strings"
	"testing"

	"yardstick/api"
	"yardstick/rational"
	"yardstick/unit"
)

// spelled returns the text of a valid unit, as it is defined.
func spelled(u api.Unit) string {
	s := map[int]string{0: "absolute", 1: "difference", 2: "ratio"}[u.Scale] + " kind " + strconv.Itoa(u.Kind)
	s += " factor " + value(u.Factor).RatString() + " offset " + value(u.Offset).RatString()
	for i, p := range u.Dims {
		if p.Num != 0 {
			s += " " + strings.Fields("m kg s A K mol cd")[i] + "^" + exponent(p).RatString()
		}
	}
	return s
}

var (
	unitForm     = regexp.MustCompile(`^(absolute|difference|ratio) kind (0|[1-9][0-9]{0,2}) factor (-?[0-9]+(?:/[0-9]+)?) offset (-?[0-9]+(?:/[0-9]+)?)((?: (?:m|kg|s|A|K|mol|cd)\^-?[0-9]{1,2}(?:/[0-9]{1,2})?)*)$`)
	exponentForm = regexp.MustCompile(`^(m|kg|s|A|K|mol|cd)\^(-?[1-9][0-9]?)(?:/([1-9][0-9]?))?$`)
)

// isText reports whether s is the text of a valid unit.
func isText(s string) bool {
	parts := unitForm.FindStringSubmatch(s)
	if parts == nil {
		return false
	}
	u := api.Unit{Dims: none, Scale: strings.Index("adr", parts[1][:1])}
	u.Kind, _ = strconv.Atoi(parts[2])
	var errs [2]api.Errno
	u.Factor, errs[0] = rational.Parse(parts[3])
	u.Offset, errs[1] = rational.Parse(parts[4])
	if errs[0] != api.OK || errs[1] != api.OK || u.Kind > 100 || value(u.Factor).Sign() <= 0 {
		return false
	}
	last := -1
	for _, word := range strings.Fields(parts[5]) {
		p := exponentForm.FindStringSubmatch(word)
		if p == nil || p[3] == "1" {
			return false
		}
		place := map[string]int{"m": 0, "kg": 1, "s": 2, "A": 3, "K": 4, "mol": 5, "cd": 6}[p[1]]
		if place <= last {
			return false
		}
		last = place
		u.Dims[place].Num, _ = strconv.Atoi(p[2])
		if p[3] != "" {
			u.Dims[place].Den, _ = strconv.Atoi(p[3])
		}
		if !isPower(u.Dims[place]) {
			return false
		}
	}
	return u.Scale == api.SAbsolute || u == plain(u.Dims, rational.Print(u.Factor), u.Kind)
}

// checkParse checks whether s is parsed, and that the unit has this text; it reports whether s was parsed.
func checkParse(t *testing.T, s string) bool {
	t.Helper()
	u, err := unit.Parse(s)
	if !isText(s) {
		if u != (api.Unit{}) || err != api.ErrUnit {
			t.Fatalf("Parse(%q) = %s, %d", s[:min(len(s), 300)], shown(u), err)
		}
		return false
	}
	if err != api.OK || !unit.Valid(u) || spelled(u) != s {
		t.Fatalf("Parse(%q) = %s, %d", s, shown(u), err)
	}
	return true
}

// P7.1, P7.7: what Print returns, which Parse takes back, and that it is different for different units.
func TestPrint(t *testing.T) {
	l := append(someUnits(), smallUnits()...)
	for i := range 7 {
		for _, p := range powers() {
			u, w := plain(none, "1", 4), plain(everyone, "1", 0)
			u.Dims[i], w.Dims[i] = p, p
			l = append(l, u, w)
		}
	}
	for kind := 1; kind <= 100; kind++ {
		l = append(l, plain(none, "2/3", kind), absolute(joule, "2/3", "-1/3", kind))
	}
	printed := map[string]api.Unit{}
	for _, u := range l {
		s, err := unit.Print(u)
		if s != spelled(u) || err != api.OK {
			t.Errorf("Print(%s) = %q, %d", shown(u), s, err)
		}
		if other, ok := printed[s]; ok && other != u {
			t.Errorf("%q stands for %s and %s", s, shown(u), shown(other))
		}
		printed[s] = u
		back, err := unit.Parse(s)
		wantUnit(t, "Parse "+s, back, err, u)
	}
}

// P7.1: some texts, in full.
func TestPrintKnown(t *testing.T) {
	for s, u := range map[string]api.Unit{
		"ratio kind 0 factor 1 offset 0":                                                          plain(none, "1", 0),
		"ratio kind 0 factor 1/100 offset 0":                                                      plain(none, "1/100", 0),
		"difference kind 100 factor 1 offset 0":                                                   plain(none, "1", 100),
		"absolute kind 0 factor 1 offset 0":                                                       absolute(none, "1", "0", 0),
		"absolute kind 7 factor 5/9 offset -45967/180 K^1":                                        absolute(kelvin, "5/9", "-45967/180", 7),
		"difference kind 7 factor 1 offset 0 m^2 kg^1 s^-2":                                       plain(joule, "1", 7),
		"difference kind 0 factor 1 offset 0 m^-12 kg^12 s^1/12 A^-11/12 K^12/11 mol^-1 cd^5/7":   plain(everyone, "1", 0),
		"difference kind 0 factor " + nines + "/" + ten199 + " offset 0 cd^-1/2":                  plain(exponents("0", "0", "0", "0", "0", "0", "-1/2"), nines+"/"+ten199, 0),
		"absolute kind 0 factor 1/" + nines + " offset -" + nines + "/" + ten199 + " mol^-3 cd^1": absolute(exponents("0", "0", "0", "0", "0", "-3", "1"), "1/"+nines, "-"+nines+"/"+ten199, 0),
	} {
		got, err := unit.Print(u)
		if got != s || err != api.OK {
			t.Errorf("Print(%s) = %q, %d", shown(u), got, err)
		}
		back, err := unit.Parse(s)
		wantUnit(t, "Parse "+s, back, err, u)
	}
}

// P7.1, P7.7: strings that are no texts.
func TestParseRefused(t *testing.T) {
	const head = "difference kind 0 factor 1 offset 0"
	l := []string{
		"", " ", "       ", "ratio", "ratio kind", "ratio kind 0", "ratio kind 0 factor", "ratio kind 0 factor 1", "ratio kind 0 factor 1 offset", "ratio kind 0 factor 1 offset ", "ratio kind 0 factor 1 offset 0 ", " ratio kind 0 factor 1 offset 0",
		"ratio kind 0 factor 1 offset 0 0", "ratio kind 0 factor 1 offset 0 m", "ratio kind 0 factor 1 offset 0 m^0", "ratio kind 0 factor 1 offset 0 m^1", "ratio kind 1 factor 1 offset 0", "ratio kind 0 factor 1 offset 1",
		head, head + " m^0", head + " m^", head + " m", head + " ^1", head + " m1", head + " m^ 1", head + " m^1 ", head + "  m^1", head + " m^+1", head + " m^01", head + " m^-0", head + " m^1/1", head + " m^2/2", head + " m^2/4", head + " m^1/", head + " m^/2", head + " m^1/02",
		head + " m^1/-2", head + " m^-1/-2", head + " m^1/0", head + " m^1/13", head + " m^13", head + " m^-13", head + " m^13/2", head + " m^1.5", head + " m^1/2/3", head + " m^x", head + " m^1x", head + " m^18446744073709551617", head + " m^99999999999999999999", head + " m^1/99999999999999999999",
		head + " s^1 m^1", head + " m^1 m^1", head + " m^1 m^2", head + " m^1 s^1 s^1", head + " cd^1 mol^1", head + " kg^1 m^1", head + " K^1 A^1", head + " x^1", head + " M^1", head + " k^1", head + " a^1", head + " m^1 x^1", head + " m^1 x", head + " mm^1", head + " m^1kg^1", head + " m^1\nkg^1", head + " m^1,kg^1", head + " m^1 kg^0", head + " m^0 kg^1", head + " kg^1 cd^1 extra",
		"difference kind 00 factor 1 offset 0 m^1", "difference kind 07 factor 1 offset 0 m^1", "difference kind +7 factor 1 offset 0 m^1", "difference kind -0 factor 1 offset 0 m^1", "difference kind -1 factor 1 offset 0 m^1", "difference kind 101 factor 1 offset 0 m^1", "difference kind 99999999999999999999 factor 1 offset 0 m^1", "difference kind 18446744073709551616 factor 1 offset 0 m^1", "difference kind x factor 1 offset 0 m^1", "difference kind  factor 1 offset 0 m^1", "difference kind 1_0 factor 1 offset 0 m^1", "difference kind 0x1 factor 1 offset 0 m^1", "difference kind 1.0 factor 1 offset 0 m^1",
		"difference kind 0 factor 0 offset 0 m^1", "difference kind 0 factor -1 offset 0 m^1", "difference kind 0 factor +1 offset 0 m^1", "difference kind 0 factor 2/2 offset 0 m^1", "difference kind 0 factor 1/1 offset 0 m^1", "difference kind 0 factor 01 offset 0 m^1", "difference kind 0 factor 1/0 offset 0 m^1", "difference kind 0 factor x offset 0 m^1", "difference kind 0 factor 1.5 offset 0 m^1", "difference kind 0 factor  offset 0 m^1", "difference kind 0 factor " + nines + "9 offset 0 m^1",
		"difference kind 0 factor 1 offset 1 m^1", "difference kind 0 factor 1 offset -1 m^1", "difference kind 0 factor 1 offset 00 m^1", "difference kind 0 factor 1 offset -0 m^1", "difference kind 0 factor 1 offset 0/1 m^1", "difference kind 0 factor 1 offset x m^1", "absolute kind 0 factor 1 offset 2/4 K^1", "absolute kind 0 factor 1 offset " + nines + "9 K^1", "absolute kind 0 factor 1 offset K^1", "absolute kind 0 factor 1 offset  K^1",
		"absolutely kind 0 factor 1 offset 0 m^1", "Absolute kind 0 factor 1 offset 0 m^1", "absolut kind 0 factor 1 offset 0 m^1", " kind 0 factor 1 offset 0 m^1", "kind 0 factor 1 offset 0 m^1", "0 kind 0 factor 1 offset 0 m^1", "other kind 0 factor 1 offset 0 m^1", "absolute difference kind 0 factor 1 offset 0 m^1",
		"difference factor 1 kind 0 offset 0 m^1", "difference kind 0 offset 0 factor 1 m^1", "difference kind 0 factor 1 m^1 offset 0", "difference m^1 kind 0 factor 1 offset 0", "m^1 difference kind 0 factor 1 offset 0", "difference Kind 0 factor 1 offset 0 m^1", "difference king 0 factor 1 offset 0 m^1", "difference kind 0 factors 1 offset 0 m^1", "difference kind 0 factor 1 offse 0 m^1", "difference kind 0 kind 0 factor 1 offset 0 m^1", "difference kind 0 factor 1 factor 1 offset 0 m^1",
		"difference\tkind 0 factor 1 offset 0 m^1", "difference kind 0 factor 1 offset 0 m^1\n", "difference kind 0 factor 1 offset 0 m^1\x00", "\xffdifference kind 0 factor 1 offset 0 m^1", "difference kind 0 factor 1 offset 0 m^\u0661", "difference kind \u0660 factor 1 offset 0 m^1", "difference\u00a0kind 0 factor 1 offset 0 m^1",
		strings.Repeat(" ", 1<<20), strings.Repeat("m^1 ", 1<<18), head + strings.Repeat(" m^1", 1<<18), head + " m^" + strings.Repeat("1", 1<<20), "difference kind " + strings.Repeat("1", 1<<20) + " factor 1 offset 0 m^1", "difference kind 0 factor " + strings.Repeat("1", 1<<20) + " offset 0 m^1", "difference kind 0 factor 1 offset " + strings.Repeat("1", 1<<20) + " m^1",
	}
	for _, s := range l {
		if checkParse(t, s) {
			t.Errorf("%q is parsed", s)
		}
	}
}

// P7.7: everything that differs from a text by a byte, or by a word, is refused, unless it is another text.
func TestParseChanged(t *testing.T) {
	l := []string{
		"ratio kind 0 factor 1 offset 0", "difference kind 7 factor 5/9 offset 0", "absolute kind 100 factor 10/3 offset -5463/20", "absolute kind 0 factor 1 offset 0 K^1",
		"difference kind 0 factor 1 offset 0 m^2 kg^1 s^-2", "difference kind 10 factor 1/100 offset 0 m^-12 kg^12 s^1/12 A^-11/12 K^12/11 mol^-1 cd^5/7",
	}
	parsed := 0
	count := func(s string) {
		if checkParse(t, s) {
			parsed++
		}
	}
	const bytes = " 0123456789-+/^mkgsAKolcdart\n\x00"
	for _, s := range l {
		count(s)
		for i := range len(s) + 1 {
			count(s[:i])
			for _, b := range []byte(bytes) {
				count(s[:i] + string(b) + s[i:])
				if i < len(s) {
					count(s[:i] + string(b) + s[i+1:])
				}
			}
			if i < len(s) {
				count(s[:i] + s[i+1:])
			}
		}
		words := strings.Split(s, " ")
		for i := range words {
			for k := range words {
				changed := append([]string(nil), words...)
				changed[i], changed[k] = changed[k], changed[i]
				count(strings.Join(changed, " "))
				copied := append([]string(nil), words...)
				copied[i] = words[k]
				count(strings.Join(copied, " "))
			}
			count(strings.Join(append(append([]string(nil), words[:i]...), words[i+1:]...), " "))
			count(strings.Join(append(append([]string(nil), words[:i+1]...), words[i:]...), " "))
		}
	}
	if parsed < 300 {
		t.Errorf("only %d were texts", parsed)
	}
}

// P7.1, P7.7: words put together at random.
func TestParseRandom(t *testing.T) {
	random := rand.New(rand.NewSource(4))
	pick := func(l ...string) string { return l[random.Intn(len(l))] }
	parsed := 0
	for range 30000 {
		s := pick("absolute", "absolute", "difference", "difference", "difference", "ratio") + " kind " + pick("0", "0", "0", "7", "100", "101", "-1") + " factor " + pick("1", "1", "5/9", "1/100", "0", "-2", "4/6") + " offset " + pick("0", "0", "0", "1/2", "-3")
		for _, name := range []string{"m", "kg", "s", "A", "K", "mol", "cd"} {
			if random.Intn(3) == 0 {
				s += " " + name + "^" + pick("1", "2", "-1", "-12", "12", "1/2", "-7/12", "3/2") + strings.Repeat(pick("0", "/1", "/3"), random.Intn(12)/11)
			}
		}
		if checkParse(t, s) {
			parsed++
		}
	}
	if parsed < 3000 {
		t.Errorf("only %d were texts", parsed)
	}
}

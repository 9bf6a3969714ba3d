package rational_test

import (
	"strconv"
	"strings"
	"testing"

	"yardstick/api"
	"yardstick/rational"
)

// P4.1, P4.2, P4.6: what Print returns, which Parse takes back, and that it is different for different fractions.
func TestPrint(t *testing.T) {
	printed := map[string]api.Ratio{}
	for _, r := range someFractions() {
		s := rational.Print(r)
		want := r.Num + "/" + r.Den
		if r.Den == "1" {
			want = r.Num
		}
		if s != want {
			t.Errorf("%s = %s", shown("Print", r), s)
		}
		if other, ok := printed[s]; ok && other != r {
			t.Errorf("%s stands for %v and %v", s, r, other)
		}
		printed[s] = r
		back, err := rational.Parse(s)
		wantFraction(t, "Parse "+s, back, err, r)
	}
	for r, want := range map[api.Ratio]string{{Num: "0", Den: "1"}: "0", {Num: "-7", Den: "1"}: "-7", {Num: "7", Den: "1"}: "7", {Num: "-7", Den: "11"}: "-7/11", {Num: "1", Den: "10"}: "1/10"} {
		if s := rational.Print(r); s != want {
			t.Errorf("Print(%v) = %s", r, s)
		}
	}
}

// P4.1: nothing is printed of what is no valid fraction.
func TestPrintRefused(t *testing.T) {
	for _, r := range notFractions() {
		if s := rational.Print(r); s != "" {
			t.Errorf("%s = %q", shown("Print", r), s)
		}
	}
}

// P4.1, P4.6: strings for which no fraction is printed.
func TestParseRefused(t *testing.T) {
	nines := strings.Repeat("9", 200)
	l := []string{
		"", "/", "//", "///", "1/", "/1", "/2", "-/2", "1/-", "1//2", "1/2/", "/1/2", "1/2/3", "3/1/1", "3/1/",
		"3/-2", "-3/-2", "6/4", "-6/4", "3/1", "-3/1", "3/3", "0/1", "0/2", "0/-1", "-0", "-0/1", "-0/2", "1/0", "0/0", "-1/0",
		"+3", "+1/2", "1/+2", "03", "03/2", "3/02", "-03/2", " 1", "1 ", "1 /2", "1/ 2", "1/2 ", " 1/2", "1/2\n", "1/2\x00", "\x001/2",
		"1.5", "0.5", "1e3", "1:2", "1\\2", "1\u20442", "\u00bd", "\u0661/\u0662", "x", "x/2", "1/x", "1/2x", "NaN", "Inf", "nil",
		nines + "9", "1/" + nines + "9", "-" + nines + "9", "0" + nines, nines + "/" + nines, nines + "/1", nines + "/3",
		strings.Repeat("9", 1<<20), "1/" + strings.Repeat("7", 1<<20), strings.Repeat("/", 1<<20), strings.Repeat("1/", 1<<20),
	}
	for _, s := range l {
		r, err := rational.Parse(s)
		wantRefused(t, "Parse "+strconv.Quote(s[:min(len(s), 210)]), r, err)
	}
}

// P4.6: of all strings of up to 5 of some characters, Parse takes exactly those that Print returns.
func TestParseOnlyOne(t *testing.T) {
	known := map[string]api.Ratio{}
	for n := -9999; n <= 99999; n++ {
		for d := 1; d <= 999; d++ {
			if s := strconv.Itoa(n) + "/" + strconv.Itoa(d); len(s) > 5 && d > 1 {
				break
			}
			r := parsed(strconv.Itoa(n) + "/" + strconv.Itoa(d))
			known[rational.Print(r)] = r
		}
	}
	some := "01268-/+ "
	last := []string{""}
	for range 5 {
		var longer []string
		for _, s := range last {
			for i := range len(some) {
				longer = append(longer, s+some[i:i+1])
			}
		}
		for _, s := range longer {
			want, ok := known[s]
			r, err := rational.Parse(s)
			if ok {
				wantFraction(t, "Parse "+s, r, err, want)
			} else {
				wantRefused(t, "Parse "+s, r, err)
			}
		}
		last = longer
	}
}

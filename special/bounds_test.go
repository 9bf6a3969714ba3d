package special_test

import (
	"math/big"
	"math/rand"
	"strings"
	"testing"

	"yardstick/special"
)

// wantBounds checks bounds that are computed with so many places against the value.
func wantBounds(t *testing.T, call string, f special.Bounded, places int, x *big.Rat, v *big.Float) {
	t.Helper()
	low, high := f(places, int(x.Num().Int64()), int(x.Denom().Int64()))
	lower, ok := new(big.Rat).SetString(low)
	upper, fine := new(big.Rat).SetString(high)
	if !ok || !fine {
		t.Errorf("%s of %s with %d places: %q to %q", call, x, places, low, high)
		return
	}
	// The value has an error itself, which matters where the bounds are exact.
	error := step(150)
	lower.Sub(lower.Mul(lower, step(places)), error)
	upper.Add(upper.Mul(upper, step(places)), error)
	if lower.Cmp(exact(v)) > 0 || upper.Cmp(exact(v)) < 0 {
		t.Errorf("%s of %s with %d places: %s to %s, but it is %.30f", call, x, places, low, high, v)
	}
}

// exact returns what v is.
func exact(v *big.Float) *big.Rat {
	r, _ := v.Rat(nil)
	return r
}

// wantAllBounds checks the bounds of one function for numbers from low to high.
func wantAllBounds(t *testing.T, call string, f special.Bounded, low, high string, want func(*big.Float) *big.Float) {
	t.Helper()
	source := rand.New(rand.NewSource(21))
	for i := range 40 {
		x := randomFrom(source, rat(low), rat(high))
		switch i {
		case 0:
			x = rat(low)
		case 1:
			x = rat(high)
		}
		v := want(float(x))
		for _, places := range []int{1, 2, 3, 5, 8, 12, 80} {
			wantBounds(t, call, f, places, x, v)
		}
	}
}

// P6.1, T1: bounds are on the right sides even if few places make them far apart, and exist with the most places.
func TestBounds(t *testing.T) {
	half := func(v *big.Float) *big.Float { return minus(v, over(small(1), small(2))) }
	all := special.All
	wantAllBounds(t, "exp", all["exp"], "0", "50", exp)
	wantAllBounds(t, "log", all["log"], "1", "999999999999", log)
	wantAllBounds(t, "normal", all["normal"], "0", "12", func(x *big.Float) *big.Float { return half(normal(x)) })
	wantAllBounds(t, "root", all["root"], "0", "100", root)
	wantAllBounds(t, "of", all["of"], "0", "999999999999", func(x *big.Float) *big.Float { return x })
	for places := range 100 {
		wantBounds(t, "halfPi", all["halfPi"], places, rat("1"), over(circle(), small(2)))
	}
	for freedom := 1; freedom <= 20; freedom++ {
		wantAllBounds(t, "chi", special.ChiBounds(freedom), "0", "100", func(x *big.Float) *big.Float { return minus(small(1), chi(x, freedom)) })
	}
}

// P6.1, T1: bounds are exact where nothing is to be rounded.
func TestExactBounds(t *testing.T) {
	for _, c := range []struct{ call, x, want string }{
		{"exp", "0", "1"}, {"log", "1", "0"}, {"normal", "0", "0"}, {"quantile", "0", "0"}, {"root", "0", "0"}, {"root", "9", "3"}, {"root", "9/4", "3/2"}, {"of", "7/2", "7/2"},
	} {
		for _, places := range []int{2, 4, 12, 80} {
			x := rat(c.x)
			low, high := special.All[c.call](places, int(x.Num().Int64()), int(x.Denom().Int64()))
			want := new(big.Rat).Quo(rat(c.want), step(places)).RatString()
			if low != want || high != want {
				t.Errorf("%s of %s with %d places: %s to %s; want %s", c.call, c.x, places, low, high, want)
			}
		}
	}
}

// P6.1, T1: bounds of quantiles: N of the one is at most p, and that of the other at least p.
func TestQuantileBounds(t *testing.T) {
	source := rand.New(rand.NewSource(22))
	for i := range 30 {
		x := randomFrom(source, rat("0"), rat("499999/1000000"))
		if i == 0 {
			x = rat("499999/1000000")
		}
		p := plus(float(x), over(small(1), small(2)))
		for _, places := range []int{1, 2, 3, 4, 6, 10, 80} {
			low, high := special.All["quantile"](places, int(x.Num().Int64()), int(x.Denom().Int64()))
			lower := new(big.Rat).Mul(rat(low), step(places))
			upper := new(big.Rat).Mul(rat(high), step(places))
			// Where N is 1, as far as the oracle can tell, there is nothing to check.
			if normal(float(lower)).Cmp(p) > 0 || upper.Cmp(rat("9")) < 0 && normal(float(upper)).Cmp(p) < 0 {
				t.Errorf("quantile of %s with %d places: %s to %s", x, places, low, high)
			}
		}
	}
}

// T1: what is left of a series counts.
func TestRest(t *testing.T) {
	for _, places := range []int{1, 12, 80} {
		if low, high := special.All["halves"](places, 0, 1); low != "0" || high != "2" {
			t.Errorf("halves with %d places: %s to %s", places, low, high)
		}
	}
}

// T1: a series is not given up while its terms may still grow.
func TestLateSeries(t *testing.T) {
	for _, s := range strings.Fields("1 3 10 40 100") {
		for _, places := range []int{10, 12, 18} {
			wantBounds(t, "late", special.All["late"], places, rat(s), times(float(step(places)), exp(float(rat(s)))))
		}
	}
}

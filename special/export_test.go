package special

// A Bounded returns the bounds of a function of n / d, as integers to be divided by 10^places.
type Bounded func(places int, n int, d int) (string, string)

// All contains what the exported functions are made of.
var All = map[string]Bounded{
	"exp":      bounded(func(s scale, n int, d int) bounds { return s.exp(s.of(n, d)) }),
	"log":      bounded(scale.log),
	"normal":   bounded(scale.normal),
	"quantile": bounded(scale.quantile),
	"root":     bounded(func(s scale, n int, d int) bounds { return s.root(s.of(n, d)) }),
	"of":       bounded(scale.of),
	// A number between 0 and 1 / 10^places, a half of it, a quarter and so on.
	"halves": bounded(func(s scale, n int, d int) bounds {
		return s.total(series{bounds{"0", "1"}, func(int) (bounds, int) { return s.whole(1), 2 }})
	}),
	"halfPi": bounded(func(s scale, n int, d int) bounds { return s.halfPi() }),
	// The sum of x^k/k!, from the one with 10^-places on: its terms grow at first, although the first one is so small.
	"late": bounded(func(s scale, n int, d int) bounds {
		return s.total(series{bounds{"1", "1"}, func(k int) (bounds, int) { return s.of(n, d), k }})
	}),
}

// ChiBounds returns that of chi.
func ChiBounds(freedom int) Bounded {
	return bounded(func(s scale, n int, d int) bounds { return s.chi(s.of(n, d), freedom) })
}

func bounded(f func(s scale, n int, d int) bounds) Bounded {
	return func(places int, n int, d int) (string, string) {
		result := f(scale{power(places)}, n, d)
		return result.low, result.high
	}
}

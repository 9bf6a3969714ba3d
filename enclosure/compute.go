package enclosure

import (
	"errors"
	"slices"
	"strings"

	"yardstick/api"
	"yardstick/integer"
	"yardstick/rational"
)

// errRefused is what a computation panics with when it gives up.
var errRefused = errors.New("enclosure: refused")

// attempt returns what compute makes of the operands, which must be valid, or the error if it gives up.
func attempt[T any](compute func() T, operands ...api.Interval) (result T, err api.Errno) {
	defer func() {
		if cause := recover(); cause != nil {
			err = code(cause)
		}
	}()
	for _, x := range operands {
		require(Valid(x))
	}
	return compute(), api.OK
}

// code returns the error to return for what was recovered.
func code(cause any) api.Errno {
	if refusal, ok := cause.(error); ok && errors.Is(refusal, errRefused) {
		return api.ErrEnclosure
	}
	// A fault of the program: it must not leave the package as a panic, nor pass for a refusal of the arguments.
	return api.ErrArg
}

// require gives up unless the condition holds.
func require(condition bool) {
	if !condition {
		panic(errRefused)
	}
}

// must returns the result of a call, and gives up if the call returned an error.
func must[T any](result T, err api.Errno) T {
	require(err == api.OK)
	return result
}

// pairs returns what the operation makes of each end of a with each end of b.
func pairs(operation func(api.Ratio, api.Ratio) (api.Ratio, api.Errno), a api.Interval, b api.Interval) []api.Ratio {
	var results []api.Ratio
	for _, x := range []api.Ratio{a.Lo, a.Hi} {
		for _, y := range []api.Ratio{b.Lo, b.Hi} {
			results = append(results, must(operation(x, y)))
		}
	}
	return results
}

// hull returns the smallest interval that contains all the fractions, of which there must be one.
func hull(fractions ...api.Ratio) api.Interval {
	return span(least(fractions...), greatest(fractions...))
}

func least(fractions ...api.Ratio) api.Ratio {
	return slices.MinFunc(fractions, rational.Compare)
}

func greatest(fractions ...api.Ratio) api.Ratio {
	return slices.MaxFunc(fractions, rational.Compare)
}

// span returns the interval from lo to hi, which must not be less. It shares no memory with them.
func span(lo api.Ratio, hi api.Ratio) api.Interval {
	return api.Interval{Lo: clone(lo), Hi: clone(hi)}
}

func clone(r api.Ratio) api.Ratio {
	return api.Ratio{Num: strings.Clone(r.Num), Den: strings.Clone(r.Den)}
}

// power returns 1 followed by as many zeros as places says, which must be in its range.
func power(places int) string {
	require(places >= 0 && places <= api.MaxPlaces)
	return "1" + strings.Repeat("0", places)
}

// roots returns the greatest integer whose square is at most r * t * t, and the least one, not negative, whose square is
// at least that. It gives up if r is negative, as rounding down keeps it negative, and integer.Root refuses that.
func roots(r api.Ratio, t string) (string, string) {
	square := must(integer.Mul(r.Num, must(integer.Mul(t, t))))
	whole, rest, err := integer.Div(square, r.Den)
	low := must(integer.Root(must(whole, err)))
	if rest == "0" && must(integer.Mul(low, low)) == whole {
		return low, low
	}
	return low, must(integer.Add(low, "1"))
}

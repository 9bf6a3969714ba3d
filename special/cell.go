package special

import (
	"strings"

	"yardstick/api"
	"yardstick/enclosure"
	"yardstick/integer"
	"yardstick/rational"
)

// parts returns the numerator and the denominator of x, if it is short.
func parts(x api.Ratio) (int, int, bool) {
	if !brief(x.Num) || !brief(x.Den) || !rational.Valid(x) {
		return 0, 0, false
	}
	n, badNum := integer.ToInt(x.Num)
	d, badDen := integer.ToInt(x.Den)
	return n, d, badNum == api.OK && badDen == api.OK
}

// brief reports whether s has no more digits than a part of a short fraction may have.
func brief(s string) bool {
	return len(strings.TrimPrefix(s, "-")) <= api.MaxExact
}

// cell returns the cell of a number of which enclose returns bounds with the places of a scale: with more and more of
// them, until it is clear which cell it is.
//
// Where the number is on the grid, its bounds must be exact. Otherwise it lies strictly between two neighbours on the
// grid, and it is clear which ones as soon as the bounds, rounded outwards, are not further apart than these.
func cell(places int, enclose func(s scale) bounds) (api.Interval, api.Errno) {
	if places < 0 || places > api.MaxExact {
		return api.Interval{}, api.ErrSpecial
	}
	step := api.Ratio{Num: "1", Den: power(places)}
	// With up to 80 places, nothing here has more digits than an integer may have. It would take a coincidence of some 40
	// digits for a value to be so near to the grid that they do not suffice.
	for _, more := range []int{10, 26, 68} {
		s := scale{power(places + more)}
		ends := each(enclose(s), s.fraction)
		result, wrong := enclosure.Round(api.Interval{Lo: ends.low, Hi: ends.high}, places)
		width, wide := enclosure.Width(result)
		if wrong == api.OK && wide == api.OK && rational.Compare(width, step) <= 0 {
			return result, api.OK
		}
	}
	return api.Interval{}, api.ErrSpecial
}

package special

import (
	"strings"

	"yardstick/api"
	"yardstick/integer"
	"yardstick/rational"
)

// pair is a lower and an upper bound of a number.
type pair[T any] struct {
	low  T
	high T
}

// bounds are integers that a scale divides by its unit. Only the results of minus may be less than 0.
type bounds = pair[string]

// each returns what change makes of both bounds.
func each[T any, U any](p pair[T], change func(T) U) pair[U] {
	return pair[U]{change(p.low), change(p.high)}
}

// sum, difference, product, below and above (a quotient, rounded) are of integers. What package integer refuses is an
// empty string, which it refuses again wherever it is used, so that no number comes of it.

func sum(a string, b string) string {
	c, _ := integer.Add(a, b)
	return c
}

func difference(a string, b string) string {
	c, _ := integer.Sub(a, b)
	return c
}

func product(a string, b string) string {
	c, _ := integer.Mul(a, b)
	return c
}

func below(n string, d string) string {
	quotient, _, _ := integer.Div(n, d)
	return quotient
}

func above(n string, d string) string {
	quotient, rest, _ := integer.Div(n, d)
	if rest == "0" {
		return quotient
	}
	return sum(quotient, "1")
}

// plus returns bounds of the sum.
func plus(p bounds, q bounds) bounds {
	return bounds{sum(p.low, q.low), sum(p.high, q.high)}
}

// minus returns bounds of the difference.
func minus(p bounds, q bounds) bounds {
	return bounds{difference(p.low, q.high), difference(p.high, q.low)}
}

// part returns bounds of p, multiplied by times and divided by over.
func part(p bounds, times int, over int) bounds {
	t, o := integer.FromInt(times), integer.FromInt(over)
	return bounds{below(product(p.low, t), o), above(product(p.high, t), o)}
}

// scale is a fixed number of places. A bound of 0 stays exact in all that it does.
type scale struct {
	unit string
}

// power returns 1 with so many zeros.
func power(places int) string {
	return "1" + strings.Repeat("0", places)
}

// whole returns n itself.
func (s scale) whole(n int) bounds {
	exact := product(integer.FromInt(n), s.unit)
	return bounds{exact, exact}
}

// of returns bounds of the fraction n / d.
func (s scale) of(n int, d int) bounds {
	return part(s.whole(1), n, d)
}

// fraction returns what the integer of a bound stands for.
func (s scale) fraction(bound string) api.Ratio {
	r, _ := rational.Make(bound, s.unit)
	return r
}

// times returns bounds of the product.
func (s scale) times(p bounds, q bounds) bounds {
	return s.timesOver(p, q, 1)
}

// timesOver returns bounds of the product, divided by over.
func (s scale) timesOver(p bounds, q bounds, over int) bounds {
	divisor := product(s.unit, integer.FromInt(over))
	return bounds{below(product(p.low, q.low), divisor), above(product(p.high, q.high), divisor)}
}

// over returns bounds of the quotient.
func (s scale) over(p bounds, q bounds) bounds {
	return bounds{below(product(p.low, s.unit), q.high), above(product(p.high, s.unit), q.low)}
}

// root returns bounds of the square root.
func (s scale) root(p bounds) bounds {
	low, _ := integer.Root(product(p.low, s.unit))
	square := product(p.high, s.unit)
	high, _ := integer.Root(square)
	if product(high, high) != square {
		high = sum(high, "1")
	}
	return bounds{low, high}
}

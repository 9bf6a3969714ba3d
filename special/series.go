package special

import (
	"iter"

	"yardstick/integer"
)

// series is a sum of terms that are not negative. The n-th term after the first one is the one before it, multiplied
// and divided by what factor returns for n. As soon as that is at most 1/2, it stays so.
type series struct {
	first  bounds
	factor func(n int) (bounds, int)
}

// terms returns the terms, one after the other, with how many there are up to each.
func (s scale) terms(l series) iter.Seq2[int, bounds] {
	return func(yield func(int, bounds) bool) {
		term := l.first
		for n := 1; yield(n, term); n++ {
			times, over := l.factor(n)
			term = s.timesOver(term, times, over)
		}
	}
}

// total returns bounds of the sum.
func (s scale) total(l series) bounds {
	small := func(n int, term bounds) bool {
		if integer.Compare(term.high, "1") > 0 {
			return false
		}
		times, over := l.factor(n)
		return integer.Compare(product(times.high, "2"), product(s.unit, integer.FromInt(over))) <= 0
	}
	result := s.whole(0)
	for n, term := range s.terms(l) {
		result = plus(result, term)
		if small(n, term) {
			// All terms that are left are together at most as much as this one.
			result.high = sum(result.high, term.high)
			break
		}
	}
	return result
}

// exp returns bounds of exp(y), for y from 0 to 50.
func (s scale) exp(y bounds) bounds {
	// The series is short for a small number, and squaring doubles it.
	small := part(y, 1, 256)
	result := s.total(series{s.whole(1), func(n int) (bounds, int) { return small, n }})
	for range 8 {
		result = s.times(result, result)
	}
	return result
}

// log returns bounds of the logarithm of n / d, which is at least 1.
func (s scale) log(n int, d int) bounds {
	doublings := 0
	for n >= 2*d {
		d *= 2
		doublings++
	}
	// The logarithm of m is twice the artanh of (m - 1) / (m + 1).
	return plus(part(s.artanh(1, 3), 2*doublings, 1), part(s.artanh(n-d, n+d), 2, 1))
}

// artanh returns bounds of t + t^3/3 + t^5/5 + .., where t is n / d, from 0 to 1/3.
func (s scale) artanh(n int, d int) bounds {
	t := s.of(n, d)
	square := s.times(t, t)
	return s.total(series{t, func(n int) (bounds, int) { return part(square, 2*n-1, 1), 2*n + 1 }})
}

// pi is the beginning of the digits of pi.
const pi = "3141592653589793238462643383279502884197169399375105820974944592307816406286208998628034825342117067"

// halfPi returns bounds of pi / 2.
func (s scale) halfPi() bounds {
	low := pi[:len(s.unit)]
	return part(bounds{low, sum(low, "1")}, 1, 2)
}

// spread returns bounds of the square root of 2 pi.
func (s scale) spread() bounds {
	return part(s.root(s.halfPi()), 2, 1)
}

// rising returns bounds of first * (1 + x/(k+2) + x^2/((k+2)(k+4)) + ..).
func (s scale) rising(first bounds, x bounds, k int) bounds {
	return s.total(series{first, func(n int) (bounds, int) { return x, k + 2*n }})
}

// chi returns bounds of 1 - Q(x, freedom), for x from 0 to 100.
func (s scale) chi(x bounds, freedom int) bounds {
	// first is (x/2)^(k/2) / (k/2)! for k = 0 or 1, and then for every second k up to freedom.
	first := s.whole(1)
	if freedom%2 == 1 {
		first = s.root(s.over(x, s.halfPi()))
	}
	for k := freedom%2 + 2; k <= freedom; k += 2 {
		first = s.timesOver(first, x, k)
	}
	return s.over(s.rising(first, x, freedom), s.exp(part(x, 1, 2)))
}

// normal returns bounds of N(x) - 1/2, where x is n / d and not negative.
func (s scale) normal(n int, d int) bounds {
	if n >= 8*d {
		// What is left to 1/2 is less than 10^-12.
		half := s.of(1, 2)
		return bounds{minus(half, s.of(1, 1000000000000)).low, half.high}
	}
	x := s.of(n, d)
	square := s.times(x, x)
	return s.over(s.rising(x, square, 1), s.times(s.exp(part(square, 1, 2)), s.spread()))
}

// quantile returns bounds of the x for which N(x) - 1/2 is n / d, which is from 0 to 499999/1000000.
func (s scale) quantile(n int, d int) bounds {
	const lost = 1000000 // the places that the upper bound costs
	fine := scale{product(s.unit, integer.FromInt(lost))}
	share := fine.times(fine.of(n, d), fine.spread())
	// From 0 on, N is concave, so that Newton's method goes up to x and never beyond it.
	low := "0"
	for {
		at := bounds{low, low}
		square := fine.times(at, at)
		step := minus(fine.times(share, fine.exp(part(square, 1, 2))), fine.rising(at, square, 1))
		if integer.Compare(step.low, "0") <= 0 {
			// The density falls by less than a factor of 10^6 from 0 to 5, and x is less than 5.
			high := sum(low, product(step.high, integer.FromInt(lost)))
			return part(bounds{low, high}, 1, lost)
		}
		low = sum(low, step.low)
	}
}

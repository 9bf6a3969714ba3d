package unit

import "yardstick/api"

// power returns num / den in lowest terms; den must be positive.
func power(num int, den int) api.Power {
	divisor, rest := den, num
	for rest != 0 {
		divisor, rest = rest, divisor%rest
	}
	divisor = max(divisor, -divisor)
	return api.Power{Num: num / divisor, Den: den / divisor}
}

// validPower reports whether p is valid.
func validPower(p api.Power) bool {
	return p.Den >= 1 && p.Den <= api.MaxPower && p.Num >= -api.MaxPower && p.Num <= api.MaxPower && p == power(p.Num, p.Den)
}

// validDims reports whether all exponents are valid.
func validDims(dims [7]api.Power) bool {
	for _, p := range dims {
		if !validPower(p) {
			return false
		}
	}
	return true
}

// all returns exponents that are all p.
func all(p api.Power) [7]api.Power {
	return [7]api.Power{p, p, p, p, p, p, p}
}

// combined returns what combine makes of each exponent of a and that of b in the same place. All of them must be valid,
// but what is made of them need not be.
func combined(a [7]api.Power, b [7]api.Power, combine func(x api.Power, y api.Power) api.Power) [7]api.Power {
	for i, x := range a {
		a[i] = combine(x, b[i])
	}
	return a
}

func plus(x api.Power, y api.Power) api.Power {
	return power(x.Num*y.Den+y.Num*x.Den, x.Den*y.Den)
}

func minus(x api.Power, y api.Power) api.Power {
	return power(x.Num*y.Den-y.Num*x.Den, x.Den*y.Den)
}

func times(x api.Power, y api.Power) api.Power {
	return power(x.Num*y.Num, x.Den*y.Den)
}

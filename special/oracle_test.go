package special_test

import (
	"math"
	"math/big"
)

// The functions of this file compute, by other ways than the package, what it must enclose: with numbers of 700 bits,
// and errors of less than 10^-150 for the arguments that the package takes.

const precision = 700

func float(x *big.Rat) *big.Float {
	return new(big.Float).SetPrec(precision).SetRat(x)
}

func small(n int) *big.Float {
	return new(big.Float).SetPrec(precision).SetInt64(int64(n))
}

func plus(a, b *big.Float) *big.Float {
	return new(big.Float).SetPrec(precision).Add(a, b)
}

func minus(a, b *big.Float) *big.Float {
	return new(big.Float).SetPrec(precision).Sub(a, b)
}

func times(a, b *big.Float) *big.Float {
	return new(big.Float).SetPrec(precision).Mul(a, b)
}

func over(a, b *big.Float) *big.Float {
	return new(big.Float).SetPrec(precision).Quo(a, b)
}

func root(a *big.Float) *big.Float {
	return new(big.Float).SetPrec(precision).Sqrt(a)
}

// sum returns first, and what step makes of it and of what it made of it, for 1, 2 and so on, as long as it matters.
func sum(first *big.Float, step func(n int, last *big.Float) *big.Float) *big.Float {
	total, term := small(0), first
	for n := 1; term.Sign() != 0 && term.MantExp(nil) > -precision; n++ {
		total = plus(total, term)
		term = step(n, term)
	}
	return total
}

// exp returns exp(x).
func exp(x *big.Float) *big.Float {
	doublings := max(x.MantExp(nil)+10, 0)
	part := new(big.Float).SetMantExp(x, -doublings)
	result := sum(small(1), func(n int, last *big.Float) *big.Float { return over(times(last, part), small(n)) })
	for range doublings {
		result = times(result, result)
	}
	return result
}

// log returns the natural logarithm of x by Newton's method, from that of the library on.
func log(x *big.Float) *big.Float {
	near, _ := x.Float64()
	result := new(big.Float).SetPrec(precision).SetFloat64(math.Log(near))
	for range 5 {
		result = plus(result, minus(over(x, exp(result)), small(1)))
	}
	return result
}

// arctan returns the arctangent of 1 / n.
func arctan(n int) *big.Float {
	power := over(small(1), small(n))
	square := times(power, power)
	total := small(0)
	for k := 1; power.MantExp(nil) > -precision; k += 4 {
		total = plus(total, over(power, small(k)))
		power = times(power, square)
		total = minus(total, over(power, small(k+2)))
		power = times(power, square)
	}
	return total
}

// circle returns pi, by Machin's formula.
func circle() *big.Float {
	return times(small(4), minus(times(small(4), arctan(5)), arctan(239)))
}

// normal returns N(x), by the series with terms of both signs.
func normal(x *big.Float) *big.Float {
	half := new(big.Float).SetMantExp(times(x, x), -1)
	power, total := x, small(0)
	for n := 0; power.Sign() != 0 && power.MantExp(nil) > -precision; n++ {
		total = plus(total, over(power, small(2*n+1)))
		power = over(times(power, half), small(-n-1))
	}
	return plus(over(total, root(times(small(2), circle()))), small(1).SetMantExp(small(1), -1))
}

// chi returns Q(x, k): that of 1 or 2, and what is added for every two more.
func chi(x *big.Float, k int) *big.Float {
	y := new(big.Float).SetMantExp(x, -1)
	decay := exp(minus(small(0), y))
	result, step := decay, times(decay, y) // y^(k/2) / (exp(y) (k/2)!), here for k = 2
	if k%2 == 1 {
		result = times(small(2), minus(small(1), normal(root(x))))
		step = times(decay, times(small(2), root(over(y, circle()))))
	}
	for i := 2 - k%2; i < k; i += 2 {
		result = plus(result, step)
		step = over(times(step, y), new(big.Float).SetMantExp(small(i+2), -1))
	}
	return result
}

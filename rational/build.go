package rational

import (
	"strings"

	"yardstick/api"
	"yardstick/integer"
)

// step is a step in building a fraction: it makes it from what the steps before it made, which need not be in lowest
// terms. With an error, it makes a zero value.
type step func(made api.Ratio) (api.Ratio, api.Errno)

// build returns what the steps make, one after the other. After an error, the others are skipped.
func build(steps ...step) (api.Ratio, api.Errno) {
	made, err := api.Ratio{}, api.OK
	for _, next := range steps {
		if err == api.OK {
			made, err = next(made)
		}
	}
	return made, err
}

// start begins with the first of the operands, all of which must be valid.
func start(operands ...api.Ratio) step {
	return func(api.Ratio) (api.Ratio, api.Errno) {
		for _, r := range operands {
			if !Valid(r) {
				return api.Ratio{}, api.ErrRational
			}
		}
		return operands[0], api.OK
	}
}

// times multiplies the numerator by num and the denominator by den.
func times(num string, den string) step {
	return func(made api.Ratio) (api.Ratio, api.Errno) {
		n, errNum := integer.Mul(made.Num, num)
		d, errDen := integer.Mul(made.Den, den)
		if errNum != api.OK || errDen != api.OK {
			return api.Ratio{}, api.ErrRational
		}
		return api.Ratio{Num: n, Den: d}, api.OK
	}
}

// combine replaces the numerator by what the operation makes of it and the product of x and y.
func combine(operation func(string, string) (string, api.Errno), x string, y string) step {
	return func(made api.Ratio) (api.Ratio, api.Errno) {
		product, errProduct := integer.Mul(x, y)
		n, err := operation(made.Num, product)
		if errProduct != api.OK || err != api.OK {
			return api.Ratio{}, api.ErrRational
		}
		return api.Ratio{Num: n, Den: made.Den}, api.OK
	}
}

// reduced is the step to lowest terms and a positive denominator. It refuses what is no fraction.
func reduced(made api.Ratio) (api.Ratio, api.Errno) {
	divisor, err := integer.Gcd(made.Num, made.Den)
	if err != api.OK || made.Den == "0" {
		return api.Ratio{}, api.ErrRational
	}
	if integer.Compare(made.Den, "0") < 0 {
		divisor, _ = integer.Sub("0", divisor)
	}
	n, _, _ := integer.Div(made.Num, divisor)
	d, _, _ := integer.Div(made.Den, divisor)
	return api.Ratio{Num: n, Den: d}, api.OK
}

// floor is the step to the greatest integer that is not greater; the denominator must be positive.
func floor(made api.Ratio) (api.Ratio, api.Errno) {
	quotient, _, _ := integer.Div(made.Num, made.Den)
	return api.Ratio{Num: quotient, Den: "1"}, api.OK
}

// ceiling is the step to the smallest integer that is not less; the denominator must be positive.
func ceiling(made api.Ratio) (api.Ratio, api.Errno) {
	quotient, rest, _ := integer.Div(made.Num, made.Den)
	if rest != "0" {
		// It does not get too long: here the denominator is at least 2, so that there is room above the quotient.
		quotient, _ = integer.Add(quotient, "1")
	}
	return api.Ratio{Num: quotient, Den: "1"}, api.OK
}

// power returns 1 followed by as many zeros as places says. If places is out of its range, it returns an empty string,
// which is no integer, so that a step with it fails.
func power(places int) string {
	if places < 0 || places > api.MaxPlaces {
		return ""
	}
	return "1" + strings.Repeat("0", places)
}

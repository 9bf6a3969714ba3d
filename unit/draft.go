package unit

import (
	"strings"

	"yardstick/api"
	"yardstick/rational"
)

// exact is a fraction that is calculated step by step, with the error of the first step that failed.
type exact struct {
	api.Ratio
	api.Errno
}

// apply replaces the fraction by what the operation makes of it and the operand, unless an earlier step failed.
func (x *exact) apply(operation func(api.Ratio, api.Ratio) (api.Ratio, api.Errno), operand api.Ratio) {
	if x.Errno == api.OK {
		x.Ratio, x.Errno = operation(x.Ratio, operand)
	}
}

// draft is a plain unit in the making: its Factor, exponents and kind.
type draft struct {
	exact
	dims [7]api.Power
	kind int
}

// unit returns the plain unit, if its Factor could be calculated and its exponents are valid.
func (d draft) unit() (api.Unit, api.Errno) {
	if d.Errno != api.OK || !validDims(d.dims) {
		return api.Unit{}, api.ErrUnit
	}
	return clone(api.Unit{Dims: d.dims, Factor: d.Ratio, Offset: whole("0"), Kind: d.kind, Scale: plainScale(d.dims, d.kind)}), api.OK
}

// plainScale returns the scale of the plain units with these exponents and this kind.
func plainScale(dims [7]api.Power, kind int) int {
	if kind == 0 && dims == all(power(0, 1)) {
		return api.SRatio
	}
	return api.SDifference
}

// relative reports whether u is valid and not absolute.
func relative(u api.Unit) bool {
	return Valid(u) && u.Scale != api.SAbsolute
}

// alike reports whether a and b are valid, and differ at most in their scales and Offsets.
func alike(a api.Unit, b api.Unit) bool {
	return Valid(a) && Valid(b) && a.Dims == b.Dims && a.Factor == b.Factor && a.Kind == b.Kind
}

// kindBeside returns the kind that a quotient of a and b has: a ratio does not change it.
func kindBeside(a api.Unit, b api.Unit) int {
	if b.Scale == api.SRatio {
		return a.Kind
	}
	return 0
}

// positive reports whether r is a valid fraction greater than 0; Compare does not find others to be greater.
func positive(r api.Ratio) bool {
	return rational.Compare(r, whole("0")) > 0
}

// whole returns the integer n as a fraction.
func whole(n string) api.Ratio {
	return api.Ratio{Num: n, Den: "1"}
}

// clone returns u, without sharing the memory of its strings.
func clone(u api.Unit) api.Unit {
	u.Factor, u.Offset = cloneRatio(u.Factor), cloneRatio(u.Offset)
	return u
}

func cloneRatio(r api.Ratio) api.Ratio {
	return api.Ratio{Num: strings.Clone(r.Num), Den: strings.Clone(r.Den)}
}

package enclosure

import (
	"errors"
	"testing"

	"yardstick/api"
)

// R1: whatever a computation panics with is an error, and does not leave the package; only what is refused is
// ErrEnclosure.
func TestAttempt(t *testing.T) {
	var empty []int
	point := api.Interval{Lo: api.Ratio{Num: "7", Den: "1"}, Hi: api.Ratio{Num: "7", Den: "1"}}
	for name, c := range map[string]struct {
		compute func() int
		want    api.Errno
	}{
		"result":        {func() int { return 5 }, api.OK},
		"refusal":       {func() int { return must(5, api.ErrRational) }, api.ErrEnclosure},
		"condition":     {func() int { require(false); return 5 }, api.ErrEnclosure},
		"joined":        {func() int { panic(errors.Join(errors.New("a sum"), errRefused)) }, api.ErrEnclosure},
		"runtime error": {func() int { return empty[len(empty)] }, api.ErrArg},
		"other error":   {func() int { panic(errors.New("enclosure: refused")) }, api.ErrArg},
		"no error":      {func() int { panic("refused") }, api.ErrArg},
	} {
		result, err := attempt(c.compute, point, point)
		if err != c.want || (result != 0) != (c.want == api.OK) {
			t.Errorf("%s: %d, %d", name, result, err)
		}
	}
	called := false
	compute := func() int { called = true; return 5 }
	if result, err := attempt(compute, point, api.Interval{}); result != 0 || err != api.ErrEnclosure || called {
		t.Errorf("an operand that is not valid: %d, %d, computed: %t", result, err, called)
	}
}

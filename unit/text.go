package unit

import (
	"strconv"
	"strings"

	"yardstick/api"
	"yardstick/rational"
)

// scales are the names of the scales, in the order of their numbers.
var scales = [3]string{"absolute", "difference", "ratio"}

// names are the names of the base units.
var names = [7]string{"m", "kg", "s", "A", "K", "mol", "cd"}

// text returns the text of u, which must be valid.
func text(u api.Unit) string {
	words := []string{scales[u.Scale], "kind", strconv.Itoa(u.Kind), "factor", rational.Print(u.Factor), "offset", rational.Print(u.Offset)}
	for i, name := range names {
		if p := u.Dims[i]; p.Num != 0 {
			words = append(words, name+"^"+powerText(p))
		}
	}
	return strings.Join(words, " ")
}

func powerText(p api.Power) string {
	if p.Den == 1 {
		return strconv.Itoa(p.Num)
	}
	return strconv.Itoa(p.Num) + "/" + strconv.Itoa(p.Den)
}

// read returns the unit of which s is the text. If s is no text, it returns what it can read of it.
func read(s string) api.Unit {
	// With a blank after each word, the eighth part is what follows the first seven words, also where that is nothing.
	words := strings.SplitN(s+" ", " ", 8)
	if len(words) < 8 {
		return api.Unit{}
	}
	u := api.Unit{Dims: all(power(0, 1)), Kind: readInt(words[2])}
	for i, name := range scales {
		if name == words[0] {
			u.Scale = i
		}
	}
	u.Factor, _ = rational.Parse(words[4])
	u.Offset, _ = rational.Parse(words[6])
	rest := words[7]
	for i, name := range names {
		word, after, _ := strings.Cut(rest, " ")
		if exponent, found := strings.CutPrefix(word, name+"^"); found {
			u.Dims[i], rest = readPower(exponent), after
		}
	}
	return u
}

func readPower(s string) api.Power {
	num, den, found := strings.Cut(s, "/")
	if !found {
		den = "1"
	}
	return api.Power{Num: readInt(num), Den: readInt(den)}
}

// readInt returns the number s. If s is none, it returns another number, of which s is not the text.
func readInt(s string) int {
	n, _ := strconv.Atoi(s)
	return n
}

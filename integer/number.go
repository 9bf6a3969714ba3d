package integer

import "strings"

// number is an integer with its sign; 0 is not negative.
type number struct {
	negative bool
	size     natural
}

// signed returns the number with the given size, and the sign unless it is 0.
func signed(negative bool, size natural) number {
	return number{negative && len(size) > 0, size}
}

// read returns the number that s, which is valid, stands for.
func read(s string) number {
	digits, negative := strings.CutPrefix(s, "-")
	return number{negative, readNatural(digits)}
}

// text returns the integer that stands for n, however long it is.
func (n number) text() string {
	if n.negative {
		return "-" + n.size.text()
	}
	return n.size.text()
}

func (n number) isZero() bool {
	return len(n.size) == 0
}

// compare returns -1, 0 or 1 if n is less than m, equal to it or greater.
func (n number) compare(m number) int {
	switch {
	case n.negative && m.negative:
		return m.size.compare(n.size)
	case n.negative:
		return -1
	case m.negative:
		return 1
	}
	return n.size.compare(m.size)
}

func (n number) plus(m number) number {
	if n.negative == m.negative {
		return signed(n.negative, n.size.plus(m.size))
	}
	if n.size.compare(m.size) < 0 {
		n, m = m, n
	}
	return signed(n.negative, n.size.minus(m.size))
}

func (n number) minus(m number) number {
	return n.plus(signed(!m.negative, m.size))
}

func (n number) times(m number) number {
	return signed(n.negative != m.negative, n.size.times(m.size))
}

// over returns the quotient of n and d, which is not 0, and the remainder, which is not negative.
func (n number) over(d number) (number, number) {
	quotient, rest := n.size.over(d.size)
	if n.negative && len(rest) > 0 {
		quotient, rest = quotient.plus(natural{1}), d.size.minus(rest)
	}
	return signed(n.negative != d.negative, quotient), signed(false, rest)
}

// gcd returns the greatest common divisor of n and m.
func (n number) gcd(m number) number {
	return signed(false, n.size.gcd(m.size))
}

package integer

import (
	"cmp"
	"slices"
	"sort"
	"strings"
)

const (
	groupDigits = 4
	groupSize   = 10000
)

// natural is a number that is not negative, in groups of four digits, the least significant one first.
// The most significant one is not 0, so that 0 has no groups, and each number is the same groups everywhere.
type natural []int

// readNatural returns the number that the digits stand for.
func readNatural(digits string) natural {
	n := make(natural, 0, len(digits)/groupDigits+1)
	for end := len(digits); end > 0; end -= groupDigits {
		group := 0
		for i := max(end-groupDigits, 0); i < end; i++ {
			group = 10*group + int(digits[i]-'0')
		}
		n = append(n, group)
	}
	return n.trimmed()
}

// text returns the digits of n.
func (n natural) text() string {
	if len(n) == 0 {
		return "0"
	}
	digits := make([]byte, groupDigits*len(n))
	at := len(digits)
	for _, group := range n {
		for range groupDigits {
			at--
			digits[at] = byte('0' + group%10)
			group /= 10
		}
	}
	return strings.TrimLeft(string(digits), "0")
}

// trimmed returns n without its most significant groups as long as they are 0.
func (n natural) trimmed() natural {
	for len(n) > 0 && n[len(n)-1] == 0 {
		n = n[:len(n)-1]
	}
	return n
}

// carried returns n, whose groups may be too large or negative, with groups as they must be: what does not fit into
// one is carried to the next one. It works in place, and nothing must be left to carry from the last group.
func (n natural) carried() natural {
	carry := 0
	for i, group := range n {
		carry, n[i] = split(group + carry)
	}
	return n.trimmed()
}

// split returns what is to be carried from a group, which is negative if it has to borrow, and what is left in it.
func split(group int) (int, int) {
	carry, rest := group/groupSize, group%groupSize
	if rest < 0 {
		return carry - 1, rest + groupSize
	}
	return carry, rest
}

// fold returns what step makes of start and each element of list, one after the other.
func fold[T any, E any](list []E, start T, step func(T, E) T) T {
	for _, element := range list {
		start = step(start, element)
	}
	return start
}

// value returns n, which must not be too large for that, as an int.
func (n natural) value() int {
	place := 1
	return fold(n, 0, func(sum int, group int) int {
		sum += group * place
		place *= groupSize
		return sum
	})
}

// compare returns -1, 0 or 1 if n is less than m, equal to it or greater.
func (n natural) compare(m natural) int {
	if len(n) != len(m) {
		return cmp.Compare(len(n), len(m))
	}
	for i, group := range slices.Backward(n) {
		if group != m[i] {
			return cmp.Compare(group, m[i])
		}
	}
	return 0
}

func (n natural) plus(m natural) natural {
	sum := make(natural, max(len(n), len(m))+1)
	copy(sum, n)
	for i, group := range m {
		sum[i] += group
	}
	return sum.carried()
}

// minus returns the difference of n and m, which is not greater than n.
func (n natural) minus(m natural) natural {
	difference := slices.Clone(n)
	difference.take(m, 1)
	return difference.trimmed()
}

// times returns the product: the sum of what each group of n contributes to it.
func (n natural) times(m natural) natural {
	place := 0
	product := fold(n, make(natural, len(n)+len(m)), func(sum natural, group int) natural {
		for i, other := range m {
			sum[place+i] += group * other
		}
		place++
		return sum
	})
	return product.carried()
}

// over returns the quotient of n and d, which is not 0, and the remainder.
func (n natural) over(d natural) (natural, natural) {
	rest := slices.Clone(n)
	quotient := make(natural, max(len(n)-len(d)+1, 0))
	for i := len(quotient) - 1; i >= 0; i-- {
		part := rest[i:min(i+len(d)+1, len(rest))]
		quotient[i] = part.group(d)
		part.take(d, quotient[i])
	}
	return quotient.trimmed(), rest.trimmed()
}

// group returns how often n contains d, which is less than groupSize times. n has as many groups as d or one more,
// and may have zeros for the most significant ones.
func (n natural) group(d natural) int {
	// The most significant group of d, and what n has from its place on, leave fewer numbers to search.
	first := d[len(d)-1]
	top := n[len(d)-1:].value()
	low, high := top/(first+1), top/first
	contains := n.contains
	return low + sort.Search(high-low, func(i int) bool { return !contains(d, low+i+1) })
}

// contains reports whether n is at least k times d; it has at least as many groups as d.
func (n natural) contains(d natural, k int) bool {
	carry := 0
	for i, group := range n {
		if i < len(d) {
			group -= k * d[i]
		}
		carry, _ = split(group + carry)
	}
	return carry == 0
}

// take subtracts k times d from n, which contains it, in place.
func (n natural) take(d natural, k int) {
	for i, group := range d {
		n[i] -= k * group
	}
	n.carried()
}

// gcd returns the greatest common divisor of n and m.
func (n natural) gcd(m natural) natural {
	for len(m) > 0 {
		_, rest := n.over(m)
		n, m = m, rest
	}
	return n
}

// root returns the greatest number whose square is not greater than n.
func (n natural) root() natural {
	if len(n) == 0 {
		return n
	}
	// From a number that is too large, Newton's method goes down to the root, and no further.
	root := make(natural, (len(n)+1)/2+1)
	root[len(root)-1] = 1
	for {
		quotient, _ := n.over(root)
		next, _ := root.plus(quotient).over(natural{2})
		if next.compare(root) >= 0 {
			return root
		}
		root = next
	}
}

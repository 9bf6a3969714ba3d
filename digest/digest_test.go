package digest_test

import (
	"math"
	"math/bits"
	"math/rand"
	"slices"
	"strconv"
	"strings"
	"testing"

	"yardstick/api"
	"yardstick/digest"
)

// power returns the greatest power of two that is less than n.
func power(n int) int {
	k := 1
	for k < n-k {
		k *= 2
	}
	return k
}

// entries returns n different entries, some of them empty, short and long.
func entries(n int) []string {
	var l []string
	for i := range n {
		l = append(l, strings.Repeat("x", i%70)+strconv.Itoa(i))
	}
	if n > 2 {
		l[2] = ""
	}
	return l
}

// slowRoot is the root by its definition.
func slowRoot(l []string) string {
	switch len(l) {
	case 0:
		return librarySum("")
	case 1:
		return librarySum("\x00" + l[0])
	}
	k := power(len(l))
	return librarySum("\x01" + slowRoot(l[:k]) + slowRoot(l[k:]))
}

// slowProof is the proof by its definition.
func slowProof(l []string, i int) []string {
	if len(l) == 1 {
		return nil
	}
	if k := power(len(l)); i < k {
		return append(slowProof(l[:k], i), slowRoot(l[k:]))
	} else {
		return append(slowProof(l[k:], i-k), slowRoot(l[:k]))
	}
}

// slowPart is what Extension returns, by its definition.
func slowPart(l []string, m int, whole bool) []string {
	if m == len(l) && whole || m == 0 {
		return nil
	}
	if m == len(l) {
		return []string{slowRoot(l)}
	}
	if k := power(len(l)); m <= k {
		return append(slowPart(l[:k], m, whole), slowRoot(l[k:]))
	} else {
		return append(slowPart(l[k:], m-k, false), slowRoot(l[:k]))
	}
}

// sizes returns numbers of entries: all small ones, and those next to larger powers of two.
func sizes() []int {
	var l []int
	for n := range 21 {
		l = append(l, n)
	}
	return append(l, 31, 32, 33, 63, 64, 65, 100, 127, 128, 129)
}

// P2.1: the roots of lists.
func TestRoot(t *testing.T) {
	for _, n := range append(sizes(), 1000, 1023, 1024, 1025) {
		l := entries(n)
		if digest.Root(l) != slowRoot(l) {
			t.Errorf("the root of %d entries", n)
		}
	}
	if digest.Root([]string{}) != digest.Sum("") || digest.Root([]string{""}) != digest.Leaf("") {
		t.Error("the roots of no entry and of an empty one")
	}
	a, b, c := digest.Leaf("a"), digest.Leaf("b"), digest.Leaf("c")
	if digest.Root([]string{"a", "b", "c"}) != digest.Node(digest.Node(a, b), c) {
		t.Error("the root of three entries")
	}
}

// P2.1, P2.2: the proofs of all entries of lists.
func TestProof(t *testing.T) {
	for _, n := range sizes() {
		l := entries(n)
		root := slowRoot(l)
		for i := range n {
			proof, err := digest.Proof(l, i)
			if err != api.OK || !slices.Equal(proof, slowProof(l, i)) {
				t.Fatalf("the proof of %d of %d: error %d", i, n, err)
			}
			if len(proof) > bits.Len(uint(n)) {
				t.Errorf("the proof of %d of %d has %d elements", i, n, len(proof))
			}
			if !digest.Verify(root, n, i, l[i], proof) {
				t.Errorf("the proof of %d of %d is not accepted", i, n)
			}
		}
	}
}

// P2.1: indices that are none.
func TestProofRefused(t *testing.T) {
	for _, n := range sizes() {
		for _, i := range []int{-1, -2, n, n + 1, math.MinInt, math.MaxInt} {
			if proof, err := digest.Proof(entries(n), i); err != api.ErrArg || len(proof) > 0 {
				t.Errorf("the proof of %d of %d: %d elements, error %d", i, n, len(proof), err)
			}
		}
	}
}

// P2.1: the example of the chapter.
func TestTreeExamples(t *testing.T) {
	l := []string{"a", "b", "c"}
	if proof, err := digest.Proof(l, 2); err != api.OK || !slices.Equal(proof, []string{digest.Node(digest.Leaf("a"), digest.Leaf("b"))}) {
		t.Errorf("the proof of the third of three entries: %x, %d", proof, err)
	}
	if proof, err := digest.Extension(l, 1); err != api.OK || !slices.Equal(proof, []string{digest.Leaf("b"), digest.Leaf("c")}) {
		t.Errorf("the extension of the first of three entries: %x, %d", proof, err)
	}
}

// spoiled returns proofs that differ from the given one.
func spoiled(proof []string) [][]string {
	x := digest.Sum("none")
	l := [][]string{append(slices.Clone(proof), x), append([]string{x}, proof...)}
	for i, s := range proof {
		l = append(l, slices.Delete(slices.Clone(proof), i, i+1), slices.Insert(slices.Clone(proof), i, s))
		for _, other := range []string{"", x, s[:31], s + "\x00", s[:31] + string([]byte{s[31] ^ 1}), strings.Repeat("\x00", 32)} {
			changed := slices.Clone(proof)
			changed[i] = other
			l = append(l, changed)
		}
		if i > 0 && s != proof[i-1] {
			changed := slices.Clone(proof)
			changed[i-1], changed[i] = s, proof[i-1]
			l = append(l, changed)
		}
	}
	return l
}

// P2.1, P2.3: what Verify must not accept.
func TestVerifyRefused(t *testing.T) {
	for _, n := range sizes() {
		l := entries(n)
		root := digest.Root(l)
		for i := range n {
			proof := slowProof(l, i)
			for k, bad := range spoiled(proof) {
				if digest.Verify(root, n, i, l[i], bad) {
					t.Errorf("%d of %d: the spoiled proof %d is accepted", i, n, k)
				}
			}
			for _, bad := range []string{l[(i+1)%n] + "x", l[i] + "\x00", "\x00" + l[i], digest.Leaf(l[i])} {
				if digest.Verify(root, n, i, bad, proof) {
					t.Errorf("%d of %d: the entry %q is accepted", i, n, bad)
				}
			}
			for _, bad := range []int{-1, -n, i - n, i + n, n, math.MinInt, math.MaxInt} {
				if digest.Verify(root, n, bad, l[i], proof) {
					t.Errorf("%d of %d: the index %d is accepted", i, n, bad)
				}
			}
			for _, bad := range []string{"", root[:31], root + "\x00", l[i], digest.Sum("none")} {
				if digest.Verify(bad, n, i, l[i], proof) {
					t.Errorf("%d of %d: the root %q is accepted", i, n, bad)
				}
			}
			for _, bad := range []int{0, -1, -n, i, math.MinInt} {
				if digest.Verify(root, bad, i, l[i], proof) {
					t.Errorf("%d of %d: the number %d is accepted", i, n, bad)
				}
			}
		}
	}
	if digest.Verify(digest.Sum(""), 0, 0, "", nil) || digest.Verify(digest.Leaf(""), 1, 0, "", []string{digest.Leaf("")}) {
		t.Error("an entry of no entries, or a proof that is too long, is accepted")
	}
}

// slowValue is the value of n, i and a proof by its definition, for proofs of the right length.
func slowValue(n, i int, s string, proof []string) string {
	if n == 1 {
		return librarySum("\x00" + s)
	}
	rest, x := proof[:len(proof)-1], proof[len(proof)-1]
	if k := power(n); i < k {
		return librarySum("\x01" + slowValue(k, i, s, rest) + x)
	} else {
		return librarySum("\x01" + x + slowValue(n-k, i-k, s, rest))
	}
}

// depth is how many elements the proof of the entry with the index i has.
func depth(n, i int) int {
	d := 0
	for ; n > 1; d++ {
		if k := power(n); i < k {
			n = k
		} else {
			n, i = n-k, i-k
		}
	}
	return d
}

// digests returns n digests.
func digests(n int) []string {
	var l []string
	for i := range n {
		l = append(l, digest.Sum(strconv.Itoa(i)))
	}
	return l
}

// P2.1: elements that are no digests are refused even if the value is the root.
func TestVerifyElements(t *testing.T) {
	for _, n := range []int{2, 3, 5, 8} {
		for i := range n {
			for k := range depth(n, i) {
				for _, bad := range notDigests() {
					proof := digests(depth(n, i))
					proof[k] = bad
					if digest.Verify(slowValue(n, i, "s", proof), n, i, "s", proof) {
						t.Errorf("%d of %d: an element of %d bytes is accepted", i, n, len(bad))
					}
				}
			}
		}
	}
}

// notDigests returns strings that are no digests.
func notDigests() []string {
	x := digest.Sum("x")
	return []string{"", "x", x[:31], x[1:], x + "x", x + x}
}

// P2.1: Verify for numbers of entries of which no list has so many.
func TestVerifyLarge(t *testing.T) {
	random := rand.New(rand.NewSource(4))
	for _, n := range []int{math.MaxInt, math.MaxInt - 1, 1 << 62, 1<<62 - 1, 1<<62 + 1, 1<<62 + 3<<40, 1 << 40, 1<<40 + 1, 1<<31 - 1} {
		for _, i := range []int{0, 1, n - 1, n - 2, n / 2, n/2 - 1, n/2 + 1, 1 << 30, 1<<30 - 1, random.Intn(n), random.Intn(n)} {
			d := depth(n, i)
			proof := digests(d)
			root := slowValue(n, i, "s", proof)
			if !digest.Verify(root, n, i, "s", proof) {
				t.Errorf("%d of %d is not accepted", i, n)
			}
			for _, l := range []int{0, d - 1, d + 1, 70, 1000} {
				if digest.Verify(root, n, i, "s", digests(l)) {
					t.Errorf("%d of %d: a proof with %d elements is accepted", i, n, l)
				}
			}
			if digest.Verify(root, n, i, "t", proof) || digest.Verify(root, n, n, "s", proof) || digest.Verify(root, n, -1-i, "s", proof) {
				t.Errorf("%d of %d: another entry or an index that is none is accepted", i, n)
			}
		}
	}
}

// P2.1, P2.2: the extensions of lists.
func TestExtension(t *testing.T) {
	for _, n := range sizes() {
		l := entries(n)
		root := digest.Root(l)
		for m := range n + 1 {
			proof, err := digest.Extension(l, m)
			if err != api.OK || !slices.Equal(proof, slowPart(l, m, true)) {
				t.Fatalf("the extension of %d to %d: error %d", m, n, err)
			}
			if (m == 0 || m == n) && len(proof) > 0 || len(proof) > 2*bits.Len(uint(n)) {
				t.Errorf("the extension of %d to %d has %d elements", m, n, len(proof))
			}
			if !digest.VerifyExtension(digest.Root(l[:m]), m, root, n, proof) {
				t.Errorf("the extension of %d to %d is not accepted", m, n)
			}
		}
		for _, m := range []int{-1, -2, n + 1, n + 2, math.MinInt, math.MaxInt} {
			if proof, err := digest.Extension(l, m); err != api.ErrArg || len(proof) > 0 {
				t.Errorf("the extension of %d to %d: %d elements, error %d", m, n, len(proof), err)
			}
		}
	}
}

// P2.1, P2.4: what VerifyExtension must not accept.
func TestVerifyExtensionRefused(t *testing.T) {
	for _, n := range sizes() {
		l := entries(n)
		root := digest.Root(l)
		var roots []string
		for m := range n + 1 {
			roots = append(roots, slowRoot(l[:m]))
		}
		for m, old := range roots {
			proof := slowPart(l, m, true)
			for k, bad := range spoiled(proof) {
				if digest.VerifyExtension(old, m, root, n, bad) {
					t.Errorf("%d to %d: the spoiled proof %d is accepted", m, n, k)
				}
			}
			for k := range roots {
				if k != m && digest.VerifyExtension(roots[k], m, root, n, proof) {
					t.Errorf("%d to %d: the old root of %d is accepted", m, n, k)
				}
			}
			for _, bad := range []string{"", old[:31], old + "\x00", digest.Sum("none"), strings.Repeat("\x00", 32)} {
				if digest.VerifyExtension(bad, m, root, n, proof) {
					t.Errorf("%d to %d: the old root %q is accepted", m, n, bad)
				}
			}
			for _, bad := range []string{"", root[:31], root + "\x00", "root"} {
				if digest.VerifyExtension(old, m, bad, n, proof) {
					t.Errorf("%d to %d: the root %q is accepted", m, n, bad)
				}
			}
			if m > 0 && digest.VerifyExtension(old, m, digest.Sum("none"), n, proof) {
				t.Errorf("%d to %d: another root is accepted", m, n)
			}
			for _, bad := range []int{-1, -m - 1, n + 1, math.MinInt, math.MaxInt} {
				if digest.VerifyExtension(old, bad, root, n, proof) {
					t.Errorf("%d to %d: the number %d is accepted", m, n, bad)
				}
			}
			for _, bad := range []int{-1, m - 1, math.MinInt} {
				if digest.VerifyExtension(old, m, root, bad, proof) {
					t.Errorf("%d to %d: the number of entries %d is accepted", m, n, bad)
				}
			}
		}
	}
}

// P2.1: no entries are the beginning of every list, whatever its root is said to be; all entries are that of their own.
func TestVerifyExtensionEnds(t *testing.T) {
	none, x := digest.Sum(""), digest.Sum("x")
	for _, n := range []int{0, 1, 2, 3, 1 << 40, math.MaxInt} {
		for _, root := range []string{none, x, strings.Repeat("\x00", 32)} {
			if !digest.VerifyExtension(none, 0, root, n, nil) || !digest.VerifyExtension(none, 0, root, n, []string{}) {
				t.Errorf("0 to %d is not accepted", n)
			}
			if digest.VerifyExtension(x, 0, root, n, nil) || digest.VerifyExtension(none, 0, root, n, []string{x}) || digest.VerifyExtension(none, 0, root[1:], n, nil) {
				t.Errorf("0 to %d: another old root, an element or no digest is accepted", n)
			}
			if n == 0 {
				continue
			}
			if !digest.VerifyExtension(root, n, root, n, nil) {
				t.Errorf("%d to itself is not accepted", n)
			}
			if digest.VerifyExtension(root, n, root, n, []string{root}) || digest.VerifyExtension(digest.Sum("y"), n, root, n, nil) || digest.VerifyExtension("x", n, "x", n, nil) {
				t.Errorf("%d to itself: an element, another old root or no digest is accepted", n)
			}
		}
	}
	if digest.VerifyExtension(none, 0, none, -1, nil) || digest.VerifyExtension(x, -1, x, -1, nil) || digest.VerifyExtension(none, 0, none, math.MinInt, nil) {
		t.Error("negative numbers are accepted")
	}
}

// slowTwo are the two values by their definition, for proofs of the right length.
func slowTwo(old string, m, n int, proof []string, whole bool) (string, string) {
	if m == n && whole {
		return old, old
	}
	if m == n {
		return proof[0], proof[0]
	}
	rest, x := proof[:len(proof)-1], proof[len(proof)-1]
	if k := power(n); m <= k {
		first, second := slowTwo(old, m, k, rest, whole)
		return first, librarySum("\x01" + second + x)
	} else {
		first, second := slowTwo(old, m-k, n-k, rest, false)
		return librarySum("\x01" + x + first), librarySum("\x01" + x + second)
	}
}

// extensionSize is how many elements the proof that n entries begin with m has.
func extensionSize(m, n int, whole bool) int {
	if m == n {
		if whole {
			return 0
		}
		return 1
	}
	if k := power(n); m <= k {
		return extensionSize(m, k, whole) + 1
	} else {
		return extensionSize(m-k, n-k, false) + 1
	}
}

// P2.1: an old root and elements that are no digests are refused even if the two values are the roots.
func TestVerifyExtensionElements(t *testing.T) {
	for _, n := range []int{2, 3, 5, 8} {
		for m := 1; m < n; m++ {
			for _, bad := range notDigests() {
				proof := digests(extensionSize(m, n, true))
				old, root := slowTwo(bad, m, n, proof, true)
				if digest.VerifyExtension(old, m, root, n, proof) != (len(old) == api.DigestSize) {
					t.Errorf("%d to %d: an old root of %d bytes", m, n, len(old))
				}
				for k := range proof {
					proof := slices.Clone(proof)
					proof[k] = bad
					old, root := slowTwo(digest.Sum("old"), m, n, proof, true)
					if digest.VerifyExtension(old, m, root, n, proof) {
						t.Errorf("%d to %d: an element of %d bytes is accepted", m, n, len(bad))
					}
				}
			}
		}
	}
}

// P2.1: VerifyExtension for numbers of entries of which no list has so many.
func TestVerifyExtensionLarge(t *testing.T) {
	random := rand.New(rand.NewSource(5))
	for _, n := range []int{math.MaxInt, math.MaxInt - 1, 1 << 62, 1<<62 - 1, 1<<62 + 1, 1<<62 + 3<<40, 1 << 40, 1<<40 + 1} {
		for _, m := range []int{1, 2, 3, n - 1, n - 2, n / 2, n/2 + 1, 1 << 30, 1<<30 + 1, random.Intn(n-1) + 1, random.Intn(n-1) + 1} {
			size := extensionSize(m, n, true)
			proof := digests(size)
			old, root := slowTwo(digest.Sum("old"), m, n, proof, true)
			if !digest.VerifyExtension(old, m, root, n, proof) {
				t.Errorf("%d to %d is not accepted", m, n)
			}
			for _, l := range []int{0, size - 1, size + 1, 140, 1000} {
				if digest.VerifyExtension(old, m, root, n, digests(l)) {
					t.Errorf("%d to %d: a proof with %d elements is accepted", m, n, l)
				}
			}
			if digest.VerifyExtension(digest.Sum("none"), m, root, n, proof) || digest.VerifyExtension(old, m, old, n, proof) {
				t.Errorf("%d to %d: other roots are accepted", m, n)
			}
		}
	}
}

// parts returns the roots of all parts of the tree of l, and so all that a forger can take from it.
func parts(l []string) []string {
	if len(l) < 2 {
		return []string{slowRoot(l)}
	}
	k := power(len(l))
	return append(append(parts(l[:k]), parts(l[k:])...), slowRoot(l))
}

// choices calls check with all lists of up to size elements of pool.
func choices(pool []string, size int, check func(l []string)) {
	var extend func(l []string)
	extend = func(l []string) {
		check(l)
		if len(l) == size {
			return
		}
		for _, s := range pool {
			extend(append(l[:len(l):len(l)], s))
		}
	}
	extend(nil)
}

// P2.3: whatever proof is put together from a tree, only the entry with the index i is accepted as that.
func TestBinding(t *testing.T) {
	for n := 1; n <= 5; n++ {
		l := entries(n)
		root, pool := slowRoot(l), parts(l)
		given := slices.Concat(l, pool)
		for _, a := range pool {
			for _, b := range pool {
				given = append(given, a+b)
			}
		}
		for i := range n {
			accepted := 0
			choices(pool, 3, func(proof []string) {
				for _, s := range given {
					if !digest.Verify(root, n, i, s, proof) {
						continue
					}
					accepted++
					if s != l[i] || !slices.Equal(proof, slowProof(l, i)) {
						t.Errorf("%d of %d: %q is accepted with the proof %x", i, n, s, proof)
					}
				}
			})
			if accepted != 1 {
				t.Errorf("%d of %d: %d proofs are accepted", i, n, accepted)
			}
		}
	}
}

// P2.4: whatever proof is put together from a tree, only the root of the first m entries is accepted as that.
func TestExtensionBinding(t *testing.T) {
	for n := 1; n <= 5; n++ {
		l := entries(n)
		root, pool := slowRoot(l), parts(l)
		for m := 1; m <= n; m++ {
			olds := slices.Clone(pool)
			for k := range n {
				olds = append(olds, slowRoot(l[:k]))
			}
			slices.Sort(olds)
			accepted := 0
			choices(pool, 4, func(proof []string) {
				for _, old := range slices.Compact(olds) {
					if !digest.VerifyExtension(old, m, root, n, proof) {
						continue
					}
					accepted++
					if old != slowRoot(l[:m]) || !slices.Equal(proof, slowPart(l, m, true)) {
						t.Errorf("%d to %d: another old root is accepted with the proof %x", m, n, proof)
					}
				}
			})
			if accepted != 1 {
				t.Errorf("%d to %d: %d proofs are accepted", m, n, accepted)
			}
		}
	}
}

// R3: arguments stay as they are, with their spare capacity, and results are new memory.
func TestMemory(t *testing.T) {
	l := entries(21)
	given := slices.Clone(l)
	first, _ := digest.Proof(l[:13], 12)
	second, _ := digest.Extension(l[:13], 11)
	first, second = append(first, "x"), append(second, "y")
	first[0], second[0] = "z", "z"
	proof, _ := digest.Proof(l[:13], 12)
	extension, _ := digest.Extension(l[:13], 11)
	before, held := slices.Clone(proof), slices.Clone(extension)
	if !digest.Verify(digest.Root(l[:13]), 13, 12, l[12], proof[:len(proof):len(proof)]) {
		t.Error("the proof is not accepted")
	}
	if !digest.VerifyExtension(digest.Root(l[:11]), 11, digest.Root(l[:13]), 13, extension) {
		t.Error("the extension is not accepted")
	}
	if !slices.Equal(l, given) || !slices.Equal(proof, before) || !slices.Equal(extension, held) {
		t.Error("an argument is modified, or a result shared")
	}
}

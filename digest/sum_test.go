package digest_test

import (
	"crypto/sha256"
	"encoding/hex"
	"math/rand"
	"strings"
	"testing"

	"yardstick/digest"
)

// librarySum is the digest as Go's library computes it.
func librarySum(s string) string {
	sum := sha256.Sum256([]byte(s))
	return string(sum[:])
}

func wantSum(t *testing.T, s string) {
	t.Helper()
	if got, want := digest.Sum(s), librarySum(s); got != want {
		t.Fatalf("Sum of %d bytes = %x, want %x", len(s), got, want)
	}
}

// randomText returns a string of size bytes.
func randomText(random *rand.Rand, size int) string {
	text := make([]byte, size)
	random.Read(text)
	return string(text)
}

// P2.1: the examples of the chapter, and other known digests.
func TestExamples(t *testing.T) {
	for _, c := range []struct{ call, got, want string }{
		{"Sum()", digest.Sum(""), "e3b0c44298fc1c149afbf4c8996fb92427ae41e4649b934ca495991b7852b855"},
		{"Sum(abc)", digest.Sum("abc"), "ba7816bf8f01cfea414140de5dae2223b00361a396177a9cb410ff61f20015ad"},
		{"Sum(two blocks)", digest.Sum("abcdbcdecdefdefgefghfghighijhijkijkljklmklmnlmnomnopnopq"), "248d6a61d20638b8e5c026930c3e6039a33ce45964ff2167f6ecedd419db06c1"},
		{"Sum(a million)", digest.Sum(strings.Repeat("a", 1000000)), "cdc76e5c9914fb9281a1c7e284d73e67f1809a48a497200e046d39ccc7112cd0"},
		{"Leaf(abc)", digest.Leaf("abc"), "609f6e36d2405585188d5cfd761f407c7cc46a7d3f314c88270469dde315fcd1"},
	} {
		if got := hex.EncodeToString([]byte(c.got)); got != c.want {
			t.Errorf("%s = %s, want %s", c.call, got, c.want)
		}
	}
}

// P2.1: all lengths around those at which another block begins, of few different bytes and of many.
func TestSumLengths(t *testing.T) {
	random := rand.New(rand.NewSource(1))
	for size := range 600 {
		wantSum(t, strings.Repeat("\x00", size))
		wantSum(t, strings.Repeat("\xff", size))
		wantSum(t, strings.Repeat("\x80", size))
		wantSum(t, randomText(random, size))
	}
	for _, size := range []int{4095, 4096, 8191, 8192, 65535, 65536, 65537, 1<<21 - 1, 1 << 21} {
		wantSum(t, randomText(random, size))
	}
}

// P2.1: a length of which the number of bits does not fit into 32 bits.
func TestSumLong(t *testing.T) {
	if testing.Short() {
		t.Skip("a long string")
	}
	if got := hex.EncodeToString([]byte(digest.Sum(strings.Repeat("0123456789abcdef", 1<<25+1)))); got != "9c013706de9baf6c84233d404ef0e01b8d1b613fa904661106d29267a8a972f0" {
		t.Errorf("Sum of 2^29 + 16 bytes = %s", got)
	}
}

// P2.1: strings that differ in one bit.
func TestSumBits(t *testing.T) {
	for _, size := range []int{1, 55, 56, 64, 65} {
		for bit := range 8 * size {
			text := make([]byte, size)
			text[bit/8] = 1 << (bit % 8)
			wantSum(t, string(text))
		}
	}
}

// P2.1: Chain, Leaf and Node sum a mark and their arguments, which may be any strings.
func TestMarks(t *testing.T) {
	random := rand.New(rand.NewSource(2))
	sizes := []int{0, 1, 22, 23, 31, 32, 33, 54, 55, 56, 62, 63, 64, 65, 119, 120, 128, 1000}
	for _, i := range sizes {
		a := randomText(random, i)
		if digest.Leaf(a) != librarySum("\x00"+a) {
			t.Fatalf("Leaf of %d bytes", i)
		}
		for _, k := range sizes {
			b := randomText(random, k)
			if digest.Node(a, b) != librarySum("\x01"+a+b) {
				t.Fatalf("Node of %d and %d bytes", i, k)
			}
			if digest.Chain(a, b) != librarySum("\x02"+a+b) {
				t.Fatalf("Chain of %d and %d bytes", i, k)
			}
		}
	}
}

// headOf is the head of a list of records, by its definition.
func headOf(l []string) string {
	if len(l) == 0 {
		return strings.Repeat("\x00", 32)
	}
	last := len(l) - 1
	return digest.Chain(headOf(l[:last]), l[last])
}

// P2.3: different lists of records have different heads, even if their records joined are the same.
func TestHeads(t *testing.T) {
	records := []string{"", "a", "b", "ab", "aa", "\x00", "\x02", strings.Repeat("\x00", 32), headOf([]string{"a"})}
	records = append(records, "\x02"+headOf([]string{"a"})+"b", headOf(nil)+"a")
	lists := [][]string{nil}
	for _, a := range records {
		lists = append(lists, []string{a})
		for _, b := range records {
			lists = append(lists, []string{a, b})
			for _, c := range records {
				lists = append(lists, []string{a, b, c})
			}
		}
	}
	lists = append(lists, make([]string, 4), make([]string, 5))
	given := map[string]int{}
	for i, l := range lists {
		head := headOf(l)
		if k, ok := given[head]; ok {
			t.Fatalf("the lists %q and %q have the same head", l, lists[k])
		}
		given[head] = i
	}
}

// P2.3: no leaf, node or link of a chain has the digest of another kind.
func TestKinds(t *testing.T) {
	a, b := digest.Sum("a"), digest.Sum("b")
	all := map[string]bool{}
	for _, s := range []string{digest.Sum(a + b), digest.Leaf(a + b), digest.Node(a, b), digest.Chain(a, b), digest.Leaf("\x01" + a + b), digest.Leaf("\x02" + a + b)} {
		all[s] = true
	}
	if len(all) != 6 {
		t.Errorf("%d different digests, want 6", len(all))
	}
}

package wire_test

import (
	"hash/crc32"
	"math/bits"
	"math/rand"
	"strings"
	"testing"

	"yardstick/wire"
)

// slowSum is the checksum by its definition.
func slowSum(s string) int {
	register := uint32(0xFFFFFFFF)
	for i := range len(s) {
		register ^= uint32(s[i])
		for range 8 {
			out := register & 1
			register >>= 1
			if out == 1 {
				register ^= 0x82F63B78
			}
		}
	}
	return int(^register)
}

func wantSum(t *testing.T, s string) {
	t.Helper()
	got, want := wire.Sum(s), slowSum(s)
	if library := int(crc32.Checksum([]byte(s), crc32.MakeTable(crc32.Castagnoli))); got != want || got != library {
		t.Fatalf("Sum(%.20q) = %d, want %d (%d)", s, got, want, library)
	}
}

// P1.3: the example of the chapter, and other known sums of CRC-32C.
func TestSumExamples(t *testing.T) {
	for _, c := range []struct {
		s string
		n int
	}{
		{"123456789", 3808858755}, {"", 0}, {"a", 3251651376},
		{strings.Repeat("\x00", 32), 0x8A9136AA}, {strings.Repeat("\xff", 32), 0x62A8AB43},
	} {
		if n := wire.Sum(c.s); n != c.n {
			t.Errorf("Sum(%.20q) = %d, want %d", c.s, n, c.n)
		}
	}
}

// P1.3: Sum against its definition.
func TestSumDefinition(t *testing.T) {
	for a := range 256 {
		wantSum(t, string([]byte{byte(a)}))
		for b := range 256 {
			wantSum(t, string([]byte{byte(a), byte(b)}))
		}
	}
	random := rand.New(rand.NewSource(3))
	for size := range 500 {
		text := make([]byte, size)
		random.Read(text)
		wantSum(t, string(text))
	}
	wantSum(t, strings.Repeat("yardstick", 1<<16))
}

// flip returns s with the bits of the pattern changed, from bit at on: bits are counted from the lowest one of each byte.
func flip(s string, at int, pattern uint32) string {
	changed := []byte(s)
	for i := range 32 {
		if pattern>>i&1 == 1 {
			changed[(at+i)/8] ^= 1 << ((at + i) % 8)
		}
	}
	return string(changed)
}

// P1.4: a change of one bit, of two bits that are near, and of random bits of 32 consecutive ones.
func TestSumChanges(t *testing.T) {
	random := rand.New(rand.NewSource(4))
	for _, size := range []int{1, 2, 3, 4, 5, 9, 40} {
		text := make([]byte, size)
		random.Read(text)
		s := string(text)
		for at := range 8 * size {
			width := min(32, 8*size-at)
			for i := range width {
				checkChange(t, s, at, 1|1<<i)
			}
			for range 200 {
				checkChange(t, s, at, (random.Uint32()|1)<<(32-width)>>(32-width))
			}
		}
	}
}

func checkChange(t *testing.T, s string, at int, pattern uint32) {
	t.Helper()
	if pattern != 0 && wire.Sum(flip(s, at, pattern)) == wire.Sum(s) {
		t.Fatalf("Sum(%q) does not change with the bits %x from %d on", s, pattern, at)
	}
}

// P1.4: what a change adds to the sum is the exclusive or of what its bits add alone, and no selection of 32
// consecutive bits adds nothing: they are linearly independent.
func TestSumIndependent(t *testing.T) {
	random := rand.New(rand.NewSource(5))
	for _, size := range []int{4, 8, 60} {
		text := make([]byte, size)
		random.Read(text)
		s := string(text)
		for at := 0; at+32 <= 8*size; at++ {
			var shares [32]uint32
			for i := range shares {
				shares[i] = uint32(wire.Sum(s) ^ wire.Sum(flip(s, at, 1<<i)))
			}
			if n := rank(shares); n != 32 {
				t.Fatalf("the bits from %d on of %d bytes have rank %d", at, size, n)
			}
			pattern := random.Uint32()
			both := uint32(wire.Sum(s) ^ wire.Sum(flip(s, at, pattern)))
			if both != selected(shares, pattern) {
				t.Fatalf("the bits %x from %d on of %d bytes add %x", pattern, at, size, both)
			}
		}
	}
}

// selected is the exclusive or of the rows that the pattern selects.
func selected(rows [32]uint32, pattern uint32) uint32 {
	sum := uint32(0)
	for i, row := range rows {
		if pattern>>i&1 == 1 {
			sum ^= row
		}
	}
	return sum
}

// rank is the rank of the rows over the field of two elements.
func rank(rows [32]uint32) int {
	n := 0
	for i := range rows {
		if rows[i] == 0 {
			continue
		}
		n++
		top := bits.Len32(rows[i]) - 1
		for j := i + 1; j < len(rows); j++ {
			if rows[j]>>top&1 == 1 {
				rows[j] ^= rows[i]
			}
		}
	}
	return n
}

package digest

import (
	"math/bits"
	"slices"
	"strings"
)

const (
	blockSize = 64
	// sizeBytes is how many bytes of the last block tell the length.
	sizeBytes = 8
	rounds    = 64
)

// addends are the words that the rounds add, one for each round.
var addends = [rounds]uint32{
	0x428a2f98, 0x71374491, 0xb5c0fbcf, 0xe9b5dba5, 0x3956c25b, 0x59f111f1, 0x923f82a4, 0xab1c5ed5,
	0xd807aa98, 0x12835b01, 0x243185be, 0x550c7dc3, 0x72be5d74, 0x80deb1fe, 0x9bdc06a7, 0xc19bf174,
	0xe49b69c1, 0xefbe4786, 0x0fc19dc6, 0x240ca1cc, 0x2de92c6f, 0x4a7484aa, 0x5cb0a9dc, 0x76f988da,
	0x983e5152, 0xa831c66d, 0xb00327c8, 0xbf597fc7, 0xc6e00bf3, 0xd5a79147, 0x06ca6351, 0x14292967,
	0x27b70a85, 0x2e1b2138, 0x4d2c6dfc, 0x53380d13, 0x650a7354, 0x766a0abb, 0x81c2c92e, 0x92722c85,
	0xa2bfe8a1, 0xa81a664b, 0xc24b8b70, 0xc76c51a3, 0xd192e819, 0xd6990624, 0xf40e3585, 0x106aa070,
	0x19a4c116, 0x1e376c08, 0x2748774c, 0x34b0bcb5, 0x391c0cb3, 0x4ed8aa4a, 0x5b9cca4f, 0x682e6ff3,
	0x748f82ee, 0x78a5636f, 0x84c87814, 0x8cc70208, 0x90befffa, 0xa4506ceb, 0xbef9a3f7, 0xc67178f2,
}

// Sum returns the SHA-256 digest of s.
func Sum(s string) string {
	return sum(s)
}

// sum returns the digest of the parts, one after the other. It takes them apart so that nobody has to join them:
// a record may be as long as everything else in memory.
func sum(parts ...string) string {
	words := [8]uint32{0x6a09e667, 0xbb67ae85, 0x3c6ef372, 0xa54ff53a, 0x510e527f, 0x9b05688c, 0x1f83d9ab, 0x5be0cd19}
	size := 0
	for _, part := range parts {
		size += len(part)
	}
	for block := range blocks(slices.Concat(parts, []string{padding(size)})...) {
		mix(&words, block)
	}
	code := make([]byte, 0, 4*len(words))
	for _, word := range words {
		code = append(code, byte(word>>24), byte(word>>16), byte(word>>8), byte(word))
	}
	return string(code)
}

// padding returns what follows a string of size bytes, so that it fills whole blocks and its length is told.
func padding(size int) string {
	// With the byte 128 and the length, the zero bytes fill a block, or what is left of one.
	zeros := (2*blockSize - 1 - sizeBytes - size%blockSize) % blockSize
	var length [sizeBytes]byte
	for i := range length {
		length[i] = byte(uint64(size) * 8 >> (8 * (sizeBytes - 1 - i)))
	}
	return "\x80" + strings.Repeat("\x00", zeros) + string(length[:])
}

// blocks returns a function that yields the full blocks of the parts, one after the other.
// The block is valid until the next one is yielded.
func blocks(parts ...string) func(yield func(*[blockSize]byte) bool) {
	return func(yield func(*[blockSize]byte) bool) {
		var block [blockSize]byte
		filled := 0
	next:
		for _, part := range parts {
			for {
				size := copy(block[filled:], part)
				part = part[size:]
				filled += size
				if filled < blockSize {
					continue next
				}
				if !yield(&block) {
					return
				}
				filled = 0
			}
		}
	}
}

// mix adds what the rounds make of the words and a block to the words.
func mix(words *[8]uint32, block *[blockSize]byte) {
	expanded := expand(block)
	a, b, c, d, e, f, g, h := words[0], words[1], words[2], words[3], words[4], words[5], words[6], words[7]
	for i := range rounds {
		t := h + turned(e, 6, 11, 25) + (e&f ^ ^e&g) + addends[i] + expanded[i]
		u := turned(a, 2, 13, 22) + (a&b ^ a&c ^ b&c)
		a, b, c, d, e, f, g, h = t+u, a, b, c, d+t, e, f, g
	}
	for i, word := range [...]uint32{a, b, c, d, e, f, g, h} {
		words[i] += word
	}
}

// expand returns the words that the rounds take in: those of the block first, and then mixtures of earlier ones.
func expand(block *[blockSize]byte) [rounds]uint32 {
	var w [rounds]uint32
	for i := range blockSize / 4 {
		w[i] = uint32(block[4*i])<<24 | uint32(block[4*i+1])<<16 | uint32(block[4*i+2])<<8 | uint32(block[4*i+3])
	}
	for i := blockSize / 4; i < rounds; i++ {
		x := right(w[i-15], 7) ^ right(w[i-15], 18) ^ w[i-15]>>3
		y := right(w[i-2], 17) ^ right(w[i-2], 19) ^ w[i-2]>>10
		w[i] = w[i-16] + x + w[i-7] + y
	}
	return w
}

// turned returns the XOR of the word rotated right by i, by j and by k.
func turned(word uint32, i, j, k int) uint32 {
	return right(word, i) ^ right(word, j) ^ right(word, k)
}

// right returns the word rotated right by n.
func right(word uint32, n int) uint32 {
	return bits.RotateLeft32(word, -n)
}

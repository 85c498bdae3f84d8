package impl

import (
	"math/bits"
	"strings"
)

const (
	hashBlock  = 64
	digestSize = 32
	lengthAt   = 56         // where in its last block a text's length stands
	maxHashed  = 1000000000 // bytes that a hash may have taken
	maxGrowing = 900000000  // bytes behind which a hash takes no more
	maxWord    = 4294967295
	hexDigits  = "0123456789abcdef"
)

// The places of FIPS 180-4's working variables a to h.
const (
	atA = iota
	atB
	atC
	atD
	atE
	atF
	atG
	atH
)

var roundWords = [hashBlock]uint32{
	0x428a2f98, 0x71374491, 0xb5c0fbcf, 0xe9b5dba5, 0x3956c25b, 0x59f111f1, 0x923f82a4, 0xab1c5ed5,
	0xd807aa98, 0x12835b01, 0x243185be, 0x550c7dc3, 0x72be5d74, 0x80deb1fe, 0x9bdc06a7, 0xc19bf174,
	0xe49b69c1, 0xefbe4786, 0x0fc19dc6, 0x240ca1cc, 0x2de92c6f, 0x4a7484aa, 0x5cb0a9dc, 0x76f988da,
	0x983e5152, 0xa831c66d, 0xb00327c8, 0xbf597fc7, 0xc6e00bf3, 0xd5a79147, 0x06ca6351, 0x14292967,
	0x27b70a85, 0x2e1b2138, 0x4d2c6dfc, 0x53380d13, 0x650a7354, 0x766a0abb, 0x81c2c92e, 0x92722c85,
	0xa2bfe8a1, 0xa81a664b, 0xc24b8b70, 0xc76c51a3, 0xd192e819, 0xd6990624, 0xf40e3585, 0x106aa070,
	0x19a4c116, 0x1e376c08, 0x2748774c, 0x34b0bcb5, 0x391c0cb3, 0x4ed8aa4a, 0x5b9cca4f, 0x682e6ff3,
	0x748f82ee, 0x78a5636f, 0x84c87814, 0x8cc70208, 0x90befffa, 0xa4506ceb, 0xbef9a3f7, 0xc67178f2,
}

// Hash is a SHA-256 digest in the making: H are its words, Buf is what does
// not fill a block yet, N is how many bytes came.
type Hash struct {
	H   [8]int
	Buf string
	N   int
}

// NewHash answers the hash that no byte came to.
func NewHash() Hash {
	return Hash{H: [8]int{
		0x6a09e667, 0xbb67ae85, 0x3c6ef372, 0xa54ff53a,
		0x510e527f, 0x9b05688c, 0x1f83d9ab, 0x5be0cd19,
	}}
}

// HashOK says whether H are words, N is in its bounds and Buf fits N.
func HashOK(h Hash) bool {
	return h.right()
}

// HashMore answers h with t behind all that came.
func HashMore(h Hash, t string) (Hash, int) {
	if len(t) > MaxText {
		return Hash{}, ErrLong
	}
	if !h.right() {
		return Hash{}, ErrBad
	}
	if h.N > maxGrowing {
		return h, ErrFull
	}
	return h.with(t), OK
}

// HashSum answers the 32 bytes of h's digest.
func HashSum(h Hash) (string, int) {
	if !h.right() {
		return "", ErrBad
	}
	return h.digest(), OK
}

// HashOf answers the digest of a text.
func HashOf(t string) (string, int) {
	if len(t) > MaxText {
		return "", ErrLong
	}
	return digestOf(t), OK
}

// digestOf has no bound: what is hashed may be a text of MaxText bytes and
// what a layer puts ahead of it.
func digestOf(t string) string {
	return NewHash().with(t).digest()
}

func (h Hash) right() bool {
	if h.N < 0 || h.N > maxHashed || len(h.Buf) != h.N%hashBlock {
		return false
	}
	for _, w := range h.H {
		if w < 0 || w > maxWord {
			return false
		}
	}
	return true
}

func (h Hash) with(t string) Hash {
	rest := h.Buf + t
	words := h.H
	for len(rest) >= hashBlock {
		words = mixBlock(words, rest[:hashBlock])
		rest = rest[hashBlock:]
	}
	// A copy, or these few bytes would keep all of t's memory.
	return Hash{H: words, Buf: strings.Clone(rest), N: h.N + len(t)}
}

func (h Hash) digest() string {
	last := h.with(hashPadding(h.N))
	out := make([]byte, 0, digestSize)
	for _, w := range last.H {
		out = append(out, byte(w>>24), byte(w>>16), byte(w>>8), byte(w))
	}
	return string(out)
}

// hashPadding answers what stands behind a text of n bytes: it ends a block.
func hashPadding(n int) string {
	zeros := (lengthAt + hashBlock - 1 - n%hashBlock) % hashBlock
	out := make([]byte, 1+zeros, 1+zeros+8)
	out[0] = 128
	bitCount := 8 * n
	for shift := 56; shift >= 0; shift -= 8 {
		out = append(out, byte(bitCount>>shift))
	}
	return string(out)
}

func mixBlock(h [8]int, block string) [8]int {
	var v [8]uint32
	for i, w := range h {
		v[i] = uint32(w)
	}
	for i, w := range blockWords(block) {
		v = mixRound(v, roundWords[i]+w)
	}
	for i, w := range h {
		h[i] = int(uint32(w) + v[i])
	}
	return h
}

func blockWords(block string) [hashBlock]uint32 {
	var w [hashBlock]uint32
	for i := range 16 {
		b := block[4*i : 4*i+4]
		w[i] = uint32(b[0])<<24 | uint32(b[1])<<16 | uint32(b[2])<<8 | uint32(b[3])
	}
	for i := 16; i < hashBlock; i++ {
		x, y := w[i-15], w[i-2]
		w[i] = w[i-16] + (turnRight(x, 7) ^ turnRight(x, 18) ^ x>>3) +
			w[i-7] + (turnRight(y, 17) ^ turnRight(y, 19) ^ y>>10)
	}
	return w
}

func mixRound(v [8]uint32, kw uint32) [8]uint32 {
	a, b, c := v[atA], v[atB], v[atC]
	e, f, g := v[atE], v[atF], v[atG]
	t := v[atH] + (turnRight(e, 6) ^ turnRight(e, 11) ^ turnRight(e, 25)) + (e&f ^ ^e&g) + kw
	u := (turnRight(a, 2) ^ turnRight(a, 13) ^ turnRight(a, 22)) + (a&b ^ a&c ^ b&c)
	return [8]uint32{t + u, a, b, c, v[atD] + t, e, f, g}
}

func turnRight(x uint32, n int) uint32 {
	return bits.RotateLeft32(x, -n)
}

// HexOf answers two digits of each byte.
func HexOf(t string) (string, int) {
	if len(t) > MaxText {
		return "", ErrLong
	}
	out := make([]byte, 0, 2*len(t))
	for i := range len(t) {
		out = append(out, hexDigits[t[i]>>4], hexDigits[t[i]&15])
	}
	return string(out), OK
}

// UnHex answers the bytes whose digits t are.
func UnHex(t string) (string, int) {
	if len(t) > MaxText {
		return "", ErrLong
	}
	if len(t)%2 != 0 {
		return "", ErrForm
	}
	out := make([]byte, 0, len(t)/2)
	for i := 0; i < len(t); i += 2 {
		high := strings.IndexByte(hexDigits, t[i])
		low := strings.IndexByte(hexDigits, t[i+1])
		if high < 0 || low < 0 {
			return "", ErrForm
		}
		out = append(out, byte(16*high+low))
	}
	return string(out), OK
}

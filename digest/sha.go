package digest

import "math/bits"

const (
	blockSize  = 64
	digestSize = 64
	lengthSize = 8
	hexDigits  = "0123456789abcdef"
)

// squareRoots has the first 32 bits behind the point of the square roots of the first eight primes.
var squareRoots = [8]uint32{
	0x6a09e667, 0xbb67ae85, 0x3c6ef372, 0xa54ff53a,
	0x510e527f, 0x9b05688c, 0x1f83d9ab, 0x5be0cd19,
}

// cubeRoots (K) has the first 32 bits behind the point of the cube roots of the first 64 primes.
var cubeRoots = [64]uint32{
	0x428a2f98, 0x71374491, 0xb5c0fbcf, 0xe9b5dba5,
	0x3956c25b, 0x59f111f1, 0x923f82a4, 0xab1c5ed5,
	0xd807aa98, 0x12835b01, 0x243185be, 0x550c7dc3,
	0x72be5d74, 0x80deb1fe, 0x9bdc06a7, 0xc19bf174,
	0xe49b69c1, 0xefbe4786, 0x0fc19dc6, 0x240ca1cc,
	0x2de92c6f, 0x4a7484aa, 0x5cb0a9dc, 0x76f988da,
	0x983e5152, 0xa831c66d, 0xb00327c8, 0xbf597fc7,
	0xc6e00bf3, 0xd5a79147, 0x06ca6351, 0x14292967,
	0x27b70a85, 0x2e1b2138, 0x4d2c6dfc, 0x53380d13,
	0x650a7354, 0x766a0abb, 0x81c2c92e, 0x92722c85,
	0xa2bfe8a1, 0xa81a664b, 0xc24b8b70, 0xc76c51a3,
	0xd192e819, 0xd6990624, 0xf40e3585, 0x106aa070,
	0x19a4c116, 0x1e376c08, 0x2748774c, 0x34b0bcb5,
	0x391c0cb3, 0x4ed8aa4a, 0x5b9cca4f, 0x682e6ff3,
	0x748f82ee, 0x78a5636f, 0x84c87814, 0x8cc70208,
	0x90befffa, 0xa4506ceb, 0xbef9a3f7, 0xc67178f2,
}

func newState() [8]uint32 {
	var state [8]uint32
	for i := range state {
		state[i] = squareRoots[i]
	}
	return state
}

// ending is what comes behind a text of n bytes, to make whole blocks.
func ending(n int) string {
	noughts := blockSize - 1 - (n+lengthSize)%blockSize
	end := make([]byte, 1+noughts, 1+noughts+lengthSize)
	end[0] = 128
	length := uint64(n) * 8
	for shift := 56; shift >= 0; shift -= 8 {
		end = append(end, byte(length>>shift))
	}
	return string(end)
}

// words of a block.
func words(block string) [64]uint32 {
	var w [64]uint32
	for t := range 16 {
		w[t] = uint32(block[4*t])<<24 | uint32(block[4*t+1])<<16 | uint32(block[4*t+2])<<8 | uint32(block[4*t+3])
	}
	for t := 16; t < len(w); t++ {
		x, y := w[t-15], w[t-2]
		s0 := turned(x, 7) ^ turned(x, 18) ^ x>>3
		s1 := turned(y, 17) ^ turned(y, 19) ^ y>>10
		w[t] = w[t-16] + s0 + w[t-7] + s1
	}
	return w
}

// mixed is the state behind a block.
func mixed(state [8]uint32, block string) [8]uint32 {
	w := words(block)
	a, b, c, d := state[0], state[1], state[2], state[3]
	e, f, g, h := state[4], state[5], state[6], state[7]
	for t := range w {
		s1 := turned(e, 6) ^ turned(e, 11) ^ turned(e, 25)
		u := h + s1 + (e&f ^ ^e&g) + cubeRoots[t] + w[t]
		s0 := turned(a, 2) ^ turned(a, 13) ^ turned(a, 22)
		v := s0 + (a&b ^ a&c ^ b&c)
		h, g, f, e = g, f, e, d+u
		d, c, b, a = c, b, a, u+v
	}
	for i, x := range [8]uint32{a, b, c, d, e, f, g, h} {
		state[i] += x
	}
	return state
}

// turned right by n.
func turned(x uint32, n int) uint32 { return bits.RotateLeft32(x, -n) }

// digits of a state, the greatest first.
func digits(state [8]uint32) string {
	text := make([]byte, 0, digestSize)
	for _, x := range state {
		for shift := 28; shift >= 0; shift -= 4 {
			text = append(text, hexDigits[x>>shift&15])
		}
	}
	return string(text)
}

func isDigit(c byte) bool { return '0' <= c && c <= '9' || 'a' <= c && c <= 'f' }

// raw bytes of a digest.
func raw(d string) string {
	b := make([]byte, 0, len(d)/2)
	for i := 0; i+1 < len(d); i += 2 {
		b = append(b, worth(d[i])<<4|worth(d[i+1]))
	}
	return string(b)
}

// worth of a digit.
func worth(c byte) byte {
	if c <= '9' {
		return c - '0'
	}
	return c - 'a' + 10
}

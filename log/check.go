package log

// polynomial is xor-ed in where the bit that fell off was set.
const polynomial = 3988292384

// shifts has what eight shifts make of each byte.
type shifts [256]uint32

// newShifts are made once a call, as a log may have very many entries.
func newShifts() shifts {
	var made shifts
	for i := range made {
		made[i] = shifted(uint32(i))
	}
	return made
}

// shifted eight times.
func shifted(x uint32) uint32 {
	for range 8 {
		fell := x & 1
		x >>= 1
		if fell == 1 {
			x ^= polynomial
		}
	}
	return x
}

// check of a text. Of eight shifts only the lowest byte decides what is xor-ed in; the others just move down.
func (made *shifts) check(s string) uint32 {
	x := ^uint32(0)
	for i := range len(s) {
		x = x>>8 ^ made[byte(x)^s[i]]
	}
	return ^x
}

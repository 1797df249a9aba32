// Package sum is layer 1: see shared/doc/01-sum.md.
package sum

// halves holds, for each value of a register's lowest four bits, what four
// halvings xor into the rest: a byte then takes two steps in place of eight,
// and the table stays short.
var halves = [16]uint32{
	0x00000000, 0x105ec76f, 0x20bd8ede, 0x30e349b1,
	0x417b1dbc, 0x5125dad3, 0x61c69362, 0x7198540d,
	0x82f63b78, 0x92a8fc17, 0xa24bb5a6, 0xb21572c9,
	0xc38d26c4, 0xd3d3e1ab, 0xe330a81a, 0xf36e6f75,
}

// Crc is a text's sum.
func Crc(s string) uint32 {
	// The sum of nothing is 0, so whatever stands behind nothing is all of it.
	return More(0, s)
}

// More goes on from a sum, as if it were that of what stood ahead of s.
func More(sum uint32, s string) uint32 {
	register := ^sum
	for i := range len(s) {
		register ^= uint32(s[i])
		for range 2 {
			register = register>>4 ^ halves[register&15]
		}
	}
	return ^register
}

package frame

// poly is what a step xors the register with.
const poly = 0x82f63b78

// Crc is the CRC-32C of some bytes (P6.1).
func Crc(b []byte) uint32 { return More(0, b) }

// More is the CRC-32C of what gave sum with b behind it (P6.1).
func More(sum uint32, b []byte) uint32 {
	t := table()
	register := ^sum
	for _, x := range b {
		register = t[byte(register)^x] ^ register>>8
	}
	return ^register
}

// table is what eight steps make of a register in which one byte alone stands.
//
// Every sum fills it anew, and most bodies are short, so it is filled by an xor a byte: what steps make of two registers that are xored is what they make of each, xored.
func table() [256]uint32 {
	var t [256]uint32
	one := uint32(poly) // of the bit 128, which only the last of the eight steps finds lowest
	for bit := 128; bit > 0; bit /= 2 {
		for b := bit; b < len(t); b += 2 * bit {
			t[b] = t[b-bit] ^ one
		}
		one = step(one)
	}
	return t
}

// step moves the register by one bit.
func step(register uint32) uint32 {
	if register&1 == 1 {
		return register>>1 ^ poly
	}
	return register >> 1
}

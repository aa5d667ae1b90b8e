// Package crc is layer 2: CRC-32 checksums that detect transmission errors.
package crc

import "talaria/api"

const (
	polynomial = 0xEDB88320
	size       = 4 // bytes of an encoded checksum
)

// Sum returns the checksum of the concatenation of texts.
func Sum(l ...string) uint32 {
	register := ^uint32(0)
	for _, s := range l {
		for i := range len(s) {
			register = feed(register, s[i])
		}
	}
	return ^register
}

// feed returns the register after the bits of b. Bit k of b meets bit k of the register, which has been shifted down to the lowest place by then: so all of them are combined at once.
func feed(register uint32, b byte) uint32 {
	register ^= uint32(b)
	for range 8 {
		differs := register&1 != 0
		register >>= 1
		if differs {
			register ^= polynomial
		}
	}
	return register
}

// Seal returns s followed by its checksum.
func Seal(s string) string { return s + seal(s) }

// seal returns the checksum of s in little-endian order: the order of bits in which a checksum follows its text, so that every burst of up to 32 bits is detected.
func seal(s string) string {
	sum := Sum(s)
	var out [size]byte
	for i := range size {
		out[i] = byte(sum >> (8 * i))
	}
	return string(out[:])
}

// Open returns the text of a sealed text.
func Open(s string) (string, api.Errno) {
	n := len(s) - size
	if n < 0 {
		return "", api.ErrShort
	}
	if seal(s[:n]) != s[n:] {
		return "", api.ErrSum
	}
	return s[:n], api.OK
}

// Turn returns s with those of the 32 bits from at on inverted that are set in bits.
func Turn(s string, at int, bits uint32) string {
	out := []byte(s)
	for k := range 32 {
		place := at + k // beyond the greatest int this is negative: outside s, as it must be
		if bits>>k&1 == 1 && place >= 0 && place/8 < len(out) {
			out[place/8] ^= 1 << (place % 8)
		}
	}
	return string(out)
}

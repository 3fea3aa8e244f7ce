// Package codec is layer 2: numbers and texts as bytes, and back; keys and frames. See shared/doc/02-codec.md.
package codec

import "math/bits"

// maxVarint is how many bytes a varint has at most.
const maxVarint = 10

// number is a number of any width that has bytes of its own.
type number interface {
	uint8 | uint16 | uint32 | uint64
}

// width is how many bytes a number of a type has.
func width[N number]() int {
	return bits.Len64(uint64(^N(0))) / 8
}

// crcSteps are what four shifts of a check sum do to its lowest four bits: so a byte takes two steps, not eight.
var crcSteps = [16]uint32{
	0x00000000, 0x105ec76f, 0x20bd8ede, 0x30e349b1, 0x417b1dbc, 0x5125dad3, 0x61c69362, 0x7198540d,
	0x82f63b78, 0x92a8fc17, 0xa24bb5a6, 0xb21572c9, 0xc38d26c4, 0xd3d3e1ab, 0xe330a81a, 0xf36e6f75,
}

// Crc is the check sum of bytes.
func Crc(s string) uint32 {
	sum := ^uint32(0)
	for i := range len(s) {
		sum ^= uint32(s[i])
		sum = sum>>4 ^ crcSteps[sum&15]
		sum = sum>>4 ^ crcSteps[sum&15]
	}
	return ^sum
}

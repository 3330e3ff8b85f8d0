// Package crc is layer 1: checksums: see shared/doc/01-crc.md.
package crc

// halves saves walking bit by bit: of each half of a byte it has what four moves make of it. Moves of unlike bits add up by xor, so the bits above that half need only be moved.
var halves = [16]uint32{
	0x00000000, 0x1db71064, 0x3b6e20c8, 0x26d930ac,
	0x76dc4190, 0x6b6b51f4, 0x4db26158, 0x5005713c,
	0xedb88320, 0xf00f9344, 0xd6d6a3e8, 0xcb61b38c,
	0x9b64c2b0, 0x86d3d2d4, 0xa00ae278, 0xbdbdf21c,
}

// Sum tells the checksum of bytes.
func Sum(b []byte) uint32 { return More(0, b) }

// More tells the checksum of bytes behind others whose checksum is known.
func More(sum uint32, b []byte) uint32 {
	// A checksum is turned at its end: turned back, it is what the walk over those other bytes left.
	rest := ^sum
	for _, x := range b {
		rest ^= uint32(x)
		rest = rest>>4 ^ halves[rest&15]
		rest = rest>>4 ^ halves[rest&15]
	}
	return ^rest
}

// Right tells whether a checksum is that of bytes.
func Right(b []byte, sum uint32) bool { return Sum(b) == sum }

package frame

// nibbles holds what four of the eight steps for a byte do to the register, by its lowest four bits: the step is linear,
// so that a byte takes two of them. The value for 8 is edb88320 itself, since its bit is shifted out in the last step.
var nibbles = [16]uint32{
	0x00000000, 0x1db71064, 0x3b6e20c8, 0x26d930ac,
	0x76dc4190, 0x6b6b51f4, 0x4db26158, 0x5005713c,
	0xedb88320, 0xf00f9344, 0xd6d6a3e8, 0xcb61b38c,
	0x9b64c2b0, 0x86d3d2d4, 0xa00ae278, 0xbdbdf21c,
}

// Sum returns the CRC-32 of ISO 3309 of b.
func Sum(b []byte) uint32 {
	register := ^uint32(0)
	for _, x := range b {
		register ^= uint32(x)
		register = register>>4 ^ nibbles[register&15]
		register = register>>4 ^ nibbles[register&15]
	}
	return ^register
}

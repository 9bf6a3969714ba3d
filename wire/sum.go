package wire

const shareBits = 4

// shares has, for each value of the lowest 4 bits of the register, what they contribute to it after 4 shifts:
// a table for whole bytes would be 16 times as large.
var shares = [1 << shareBits]uint32{
	0x00000000, 0x105EC76F, 0x20BD8EDE, 0x30E349B1,
	0x417B1DBC, 0x5125DAD3, 0x61C69362, 0x7198540D,
	0x82F63B78, 0x92A8FC17, 0xA24BB5A6, 0xB21572C9,
	0xC38D26C4, 0xD3D3E1AB, 0xE330A81A, 0xF36E6F75,
}

// Sum returns the CRC-32C checksum of s.
func Sum(s string) int {
	register := uint32(0xFFFFFFFF)
	for i := 0; i < len(s); i++ {
		register ^= uint32(s[i])
		register = shift(shift(register))
	}
	return int(^register)
}

// shift shifts the register by 4 bits.
func shift(register uint32) uint32 {
	return register>>shareBits ^ shares[register%(1<<shareBits)]
}

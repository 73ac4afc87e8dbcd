package wire

// crcSteps says for each half byte what four steps of the division by 04C11DB7, bits turned, leave of it.
var crcSteps = [16]uint32{
	0x00000000, 0x1DB71064, 0x3B6E20C8, 0x26D930AC, 0x76DC4190, 0x6B6B51F4, 0x4DB26158, 0x5005713C,
	0xEDB88320, 0xF00F9344, 0xD6D6A3E8, 0xCB61B38C, 0x9B64C2B0, 0x86D3D2D4, 0xA00AE278, 0xBDBDF21C,
}

// Crc is the sum CRC-32 of bytes, one part behind the other.
func Crc(parts ...[]byte) uint32 {
	sum := ^uint32(0)
	for _, part := range parts {
		sum = crcOver(sum, part)
	}
	return ^sum
}

// crcOver carries a sum on over some bytes, the lower half of each first.
func crcOver(sum uint32, part []byte) uint32 {
	for _, c := range part {
		sum ^= uint32(c)
		sum = sum>>4 ^ crcSteps[sum%16]
		sum = sum>>4 ^ crcSteps[sum%16]
	}
	return sum
}

package memory

const (
	wordBytes = 8
	byteBits  = 8
)

// join puts the word together whose bytes are the first ones, the least one first.
func join(l []byte) uint64 {
	v := uint64(0)
	for i, b := range l[:wordBytes] {
		v |= uint64(b) << (i * byteBits)
	}
	return v
}

// split answers the bytes of a word, the least one first.
func split(v uint64) [wordBytes]byte {
	var l [wordBytes]byte
	for i := range l {
		l[i] = byte(v >> (i * byteBits))
	}
	return l
}

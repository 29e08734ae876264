// Package code: numbers and bytes in order. Its chapter: shared/doc/01-code.md.
package code

// numSize is how many bytes a number is laid in.
const numSize = 8

// Num answers b's bytes, and n behind them.
func Num(b []byte, n int) []byte {
	return layNum(copyWithRoom(b, numSize), n)
}

// Text answers b's bytes, and behind them how long s is, and its bytes.
func Text(b []byte, s string) []byte {
	laid := layNum(copyWithRoom(b, numSize+len(s)), len(s))
	return append(laid, s...)
}

// ReadNum answers the number that is laid at at, and the place behind it.
func ReadNum(b []byte, at int) (int, int, bool) {
	// The bound is len(b) less the size, since a sum with at could go round.
	if at < 0 || at > len(b)-numSize {
		return 0, 0, false
	}
	bits := uint64(0)
	for _, c := range b[at : at+numSize] {
		bits = bits<<8 | uint64(c)
	}
	return int(bits), at + numSize, true
}

// ReadText answers the text that is laid at at, and the place behind it.
func ReadText(b []byte, at int) (string, int, bool) {
	size, from, ok := ReadNum(b, at)
	if !ok || size < 0 || size > len(b)-from {
		return "", 0, false
	}
	return string(b[from : from+size]), from + size, true
}

// copyWithRoom copies b, because to append to b itself could write into its
// spare room, which belongs to the caller.
func copyWithRoom(b []byte, room int) []byte {
	return append(make([]byte, 0, len(b)+room), b...)
}

// layNum appends n's 64 bits to b, the highest first; b is this package's own.
func layNum(b []byte, n int) []byte {
	bits := uint64(n)
	for shift := 8 * (numSize - 1); shift >= 0; shift -= 8 {
		b = append(b, byte(bits>>shift))
	}
	return b
}

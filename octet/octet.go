// Package octet is layer 2: numbers and texts as bytes, each in one form, and read again.
package octet

import "math/bits"

// wide is the most bytes that a number's bytes have behind the first one.
const wide = 8

// Nat is the bytes of a number without a sign.
func Nat(n uint64) []byte {
	var b [1 + wide]byte
	size := (bits.Len64(n) + 7) / 8
	b[0] = byte(size)
	for i := size; i > 0; i-- {
		b[i] = byte(n)
		n >>= 8
	}
	return b[:1+size]
}

// Num is the bytes of a number with a sign.
func Num(n int64) []byte {
	if n < 0 {
		return Nat(uint64(-1-n)*2 + 1)
	}
	return Nat(uint64(n) * 2)
}

// Str is the bytes of a text.
func Str(s string) []byte {
	return append(Nat(uint64(len(s))), s...)
}

// Yes is the byte of a bool.
func Yes(b bool) []byte {
	if b {
		return []byte{1}
	}
	return []byte{0}
}

// Seq is parts one behind the other.
func Seq(parts ...[]byte) []byte {
	var b []byte
	for _, p := range parts {
		b = append(b, p...)
	}
	return b
}

// Strs is the bytes of a list of texts.
func Strs(l ...string) []byte {
	b := Nat(uint64(len(l)))
	for _, s := range l {
		b = append(b, Str(s)...)
	}
	return b
}

// Package octets is layer 1: numbers in bytes, highest byte first, and texts with their lengths ahead.
package octets

import (
	"muster/api"
)

// lengthBytes is how many bytes a text's length takes.
const lengthBytes = 2

// U8 is the number that the byte at at says.
func U8(b []byte, at int) (uint8, bool) {
	v, ok := number(b, at, 1)
	return uint8(v), ok
}

// U16 is the number that the two bytes from at on say.
func U16(b []byte, at int) (uint16, bool) {
	v, ok := number(b, at, 2)
	return uint16(v), ok
}

// U32 is the number that the four bytes from at on say.
func U32(b []byte, at int) (uint32, bool) {
	v, ok := number(b, at, 4)
	return uint32(v), ok
}

// U64 is the number that the eight bytes from at on say.
func U64(b []byte, at int) (uint64, bool) {
	return number(b, at, 8)
}

// Add8 is b and behind it v in one byte.
func Add8(b []byte, v uint8) []byte {
	return add(b, uint64(v), 1)
}

// Add16 is b and behind it v in two bytes.
func Add16(b []byte, v uint16) []byte {
	return add(b, uint64(v), 2)
}

// Add32 is b and behind it v in four bytes.
func Add32(b []byte, v uint32) []byte {
	return add(b, uint64(v), 4)
}

// Add64 is b and behind it v in eight bytes.
func Add64(b []byte, v uint64) []byte {
	return add(b, v, 8)
}

// AddText is b and behind it s, its length ahead; ErrLong if two bytes can't say that length.
func AddText(b []byte, s string) ([]byte, api.Errno) {
	if len(s) > api.MaxText {
		return nil, api.ErrLong
	}
	out := longer(b, lengthBytes+len(s))
	put(out, len(b), uint64(len(s)), lengthBytes)
	copy(out[len(b)+lengthBytes:], s)
	return out, api.OK
}

// Text is the text whose length stands at at, and the place behind it.
func Text(b []byte, at int) (string, int, bool) {
	n, ok := U16(b, at)
	if !ok {
		return "", 0, false
	}
	from := at + lengthBytes
	if !holds(b, from, int(n)) {
		return "", 0, false
	}
	end := from + int(n)
	return string(b[from:end]), end, true
}

// holds tells whether size bytes from at on are all in b. It takes size off b's length, for at plus size may wrap round.
func holds(b []byte, at, size int) bool {
	return at >= 0 && at <= len(b)-size
}

func number(b []byte, at, size int) (uint64, bool) {
	if !holds(b, at, size) {
		return 0, false
	}
	var v uint64
	for i := range size {
		v = v<<8 | uint64(b[at+i])
	}
	return v, true
}

func add(b []byte, v uint64, size int) []byte {
	out := longer(b, size)
	put(out, len(b), v, size)
	return out
}

// longer copies b instead of appending to it: append could write into b's spare room, which is the caller's.
func longer(b []byte, more int) []byte {
	out := make([]byte, len(b)+more)
	copy(out, b)
	return out
}

func put(out []byte, at int, v uint64, size int) {
	for i := range size {
		out[at+i] = byte(v >> (8 * (size - 1 - i)))
	}
}

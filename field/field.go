// Package field is layer 1: numbers, texts, keys and lists of texts at the beginning of bytes. See shared/doc/01-field.md.
package field

import "oblivion/api"

const (
	maxWidth    = 8   // bytes of an uint64
	lengthWidth = 2   // bytes that tell a text's length
	countWidth  = 1   // bytes that tell how many texts a list has
	maxList     = 255 // texts of a list: what one byte can count
)

// Number writes n in width bytes, the lowest one first.
func Number(n uint64, width int) (string, api.Errno) {
	if !isWidth(width) || !fits(n, width) {
		return "", api.ErrArg
	}
	return string(appendNumber(nil, n, width)), api.OK
}

// TakeNumber takes a number of width bytes from the beginning of s, and tells what is behind it.
func TakeNumber(s string, width int) (uint64, string, api.Errno) {
	if !isWidth(width) {
		return 0, "", api.ErrArg
	}
	var n uint64
	shift := 0
	rest, e := takeEach(s, width, takeByte, func(b byte) {
		n |= uint64(b) << shift
		shift += 8
	})
	if e != api.OK {
		return 0, "", e
	}
	return n, rest, api.OK
}

// Text writes the length of s, and s.
func Text(s string) (string, api.Errno) {
	if len(s) > api.MaxText {
		return "", api.ErrWide
	}
	return string(appendText(nil, s)), api.OK
}

// TakeText takes a text from the beginning of s, and tells what is behind it.
func TakeText(s string) (string, string, api.Errno) {
	n, rest, e := TakeNumber(s, lengthWidth)
	if e != api.OK {
		return "", "", e
	}
	if n > api.MaxText {
		return "", "", api.ErrWide
	}
	size := int(n)
	if len(rest) < size {
		return "", "", api.ErrShort
	}
	return rest[:size], rest[size:], api.OK
}

// TakeKey takes a key from the beginning of s, and tells what is behind it.
func TakeKey(s string) (api.Key, string, api.Errno) {
	var k api.Key
	at := 0
	rest, e := takeEach(s, len(k), takeByte, func(b byte) {
		k[at] = b
		at++
	})
	if e != api.OK {
		return api.Key{}, "", e
	}
	return k, rest, api.OK
}

// List writes how many texts l has, and each of them.
func List(l []string) (string, api.Errno) {
	if len(l) > maxList {
		return "", api.ErrWide
	}
	out := appendNumber(nil, uint64(len(l)), countWidth)
	for _, s := range l {
		if len(s) > api.MaxText {
			return "", api.ErrWide
		}
		out = appendText(out, s)
	}
	return string(out), api.OK
}

// TakeList takes a list from the beginning of s, and tells what is behind it.
func TakeList(s string) ([]string, string, api.Errno) {
	count, rest, e := TakeNumber(s, countWidth)
	if e != api.OK {
		return nil, "", e
	}
	var l []string
	rest, e = takeEach(rest, int(count), TakeText, func(text string) {
		l = append(l, text)
	})
	if e != api.OK {
		return nil, "", e
	}
	return l, rest, api.OK
}

// takeEach goes through count things at the beginning of s, hands each to keep, and tells what is behind the last.
// What was kept ahead of an error is the caller's to drop.
func takeEach[T any](s string, count int, take func(string) (T, string, api.Errno), keep func(T)) (string, api.Errno) {
	for range count {
		thing, rest, e := take(s)
		if e != api.OK {
			return "", e
		}
		keep(thing)
		s = rest
	}
	return s, api.OK
}

func takeByte(s string) (byte, string, api.Errno) {
	if len(s) == 0 {
		return 0, "", api.ErrShort
	}
	return s[0], s[1:], api.OK
}

func isWidth(width int) bool {
	return width >= 1 && width <= maxWidth
}

// fits asks for a width that is one.
func fits(n uint64, width int) bool {
	// 256^8 is beyond uint64: there each number fits.
	return width == maxWidth || n>>(8*width) == 0
}

func appendNumber(out []byte, n uint64, width int) []byte {
	for range width {
		out = append(out, byte(n))
		n >>= 8
	}
	return out
}

// appendText asks for a text that is not too wide.
func appendText(out []byte, s string) []byte {
	out = appendNumber(out, uint64(len(s)), lengthWidth)
	return append(out, s...)
}

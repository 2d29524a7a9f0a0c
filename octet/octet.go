// Package octet is layer 1: see shared/doc/01-octet.md.
package octet

import (
	"math/bits"

	"consistory/api"
)

// maxWidth is the number of bytes of the greatest number.
const maxWidth = 8

// Put: a number behind bytes.
func Put(b []byte, n uint64) []byte {
	return appendNumber(withRoom(b, Size(n)), n)
}

// Take: the number ahead.
func Take(b []byte) (uint64, []byte, api.Errno) {
	n, rest, e := cutNumber(b)
	return n, detached(rest), e
}

// Size: in how many bytes.
func Size(n uint64) int {
	return 1 + width(n)
}

// Text: a text behind bytes.
func Text(b []byte, s string) []byte {
	return appendText(withRoom(b, textSize(s)), s)
}

// TakeText: the text ahead.
func TakeText(b []byte, most int) (string, []byte, api.Errno) {
	s, rest, e := cutText(b, most)
	return s, detached(rest), e
}

// List: a row behind bytes.
func List(b []byte, l []string) []byte {
	out := appendNumber(withRoom(b, listSize(l)), uint64(len(l)))
	for _, s := range l {
		out = appendText(out, s)
	}
	return out
}

// TakeList: the row ahead.
func TakeList(b []byte, many, most int) ([]string, []byte, api.Errno) {
	n, rest, e := cutNumber(b)
	if e != api.OK {
		return nil, nil, e
	}
	if above(n, many) {
		return nil, nil, api.ErrLarge
	}
	// The list grows with what is really there: n alone may be far more than memory has room for.
	var l []string
	for range n {
		var s string
		s, rest, e = cutText(rest, most)
		if e != api.OK {
			return nil, nil, e
		}
		l = append(l, s)
	}
	return l, detached(rest), api.OK
}

// Int: a number with a sign behind bytes.
func Int(b []byte, n int) []byte {
	if n < 0 {
		// -2n - 1 as 2(-n - 1) + 1, since -n does not exist for the least int.
		return Put(b, uint64(-(n+1))*2+1)
	}
	return Put(b, uint64(n)*2)
}

// TakeInt: the one ahead.
func TakeInt(b []byte) (int, []byte, api.Errno) {
	u, rest, e := Take(b)
	half := int(u / 2)
	if u%2 == 1 {
		return -half - 1, rest, e
	}
	return half, rest, e
}

// withRoom copies, because appending in place could write behind the end of the caller's slice.
func withRoom(b []byte, more int) []byte {
	return append(make([]byte, 0, len(b)+more), b...)
}

// detached copies, so that the caller may change or extend what remains without touching what was decoded.
func detached(b []byte) []byte {
	return append([]byte(nil), b...)
}

// width leaves out leading zero bytes: each number has one encoding only.
func width(n uint64) int {
	return (bits.Len64(n) + 7) / 8
}

func textSize(s string) int {
	return Size(uint64(len(s))) + len(s)
}

func listSize(l []string) int {
	total := Size(uint64(len(l)))
	for _, s := range l {
		total += textSize(s)
	}
	return total
}

func appendNumber(b []byte, n uint64) []byte {
	w := width(n)
	b = append(b, byte(w))
	for i := w - 1; i >= 0; i-- {
		b = append(b, byte(n>>(8*i)))
	}
	return b
}

func appendText(b []byte, s string) []byte {
	return append(appendNumber(b, uint64(len(s))), s...)
}

// cutNumber is Take without the copy, so that a text or a list copies what remains only once.
func cutNumber(b []byte) (uint64, []byte, api.Errno) {
	if len(b) == 0 {
		return 0, nil, api.ErrShort
	}
	w := int(b[0])
	if w > maxWidth || w > 0 && len(b) > 1 && b[1] == 0 {
		return 0, nil, api.ErrForm
	}
	if len(b) < 1+w {
		return 0, nil, api.ErrShort
	}
	var n uint64
	for _, c := range b[1 : 1+w] {
		n = n<<8 | uint64(c)
	}
	return n, b[1+w:], api.OK
}

// cutText is TakeText without the copy of what remains.
func cutText(b []byte, most int) (string, []byte, api.Errno) {
	n, rest, e := cutNumber(b)
	if e != api.OK {
		return "", nil, e
	}
	if above(n, most) {
		return "", nil, api.ErrLarge
	}
	if n > uint64(len(rest)) {
		return "", nil, api.ErrShort
	}
	return string(rest[:n]), rest[n:], api.OK
}

// above compares as uint64, since n may be more than any int.
func above(n uint64, limit int) bool {
	return n > uint64(max(limit, 0))
}

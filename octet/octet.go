// Package octet is layer 1: numbers and texts as bytes, bytes as words.
package octet

import (
	"math/bits"

	"grommet/api"
)

// wordBytes is how many bytes a word has, and so a number at most.
const wordBytes = 8

// Tape of bytes: all of them, the place at which it stands, and whether it is torn.
type Tape struct {
	bytes []byte
	at    int
	torn  bool
}

// Number: bytes with a number behind them. (P1.1)
func Number(b []byte, n uint64) []byte {
	return putNumber(room(b, 1+wordBytes), n)
}

// Text: bytes with a text behind them. (P1.1)
func Text(b []byte, s string) []byte {
	out := putNumber(room(b, 1+wordBytes+len(s)), uint64(len(s)))
	return append(out, s...)
}

// room copies bytes to where more may be put: the room behind the caller's own is not ours.
func room(b []byte, more int) []byte {
	return append(make([]byte, 0, len(b)+more), b...)
}

// putNumber puts no more bytes than the number needs: more would be torn when they are read.
func putNumber(b []byte, n uint64) []byte {
	size := (bits.Len64(n) + wordBytes - 1) / wordBytes
	b = append(b, byte(size))
	for i := range size {
		b = append(b, byteOf(n, i))
	}
	return b
}

// New: a tape of bytes. (P1.2)
func New(b []byte) *Tape {
	return &Tape{bytes: room(b, 0)}
}

// Byte: the next one. (P1.2)
func (t *Tape) Byte() byte {
	return next(t, byteThere)
}

// Number: the next one. (P1.2)
func (t *Tape) Number() uint64 {
	return next(t, numberThere)
}

// Text: the next one. (P1.2)
func (t *Tape) Text(most int) string {
	return next(t, func(t *Tape) (string, bool) { return textThere(t, most) })
}

// End: is all read? (P1.2)
func (t *Tape) End() bool {
	return !t.Torn() && t.at == len(t.bytes)
}

// Torn: is it? (P1.2)
func (t *Tape) Torn() bool {
	return t == nil || t.torn
}

// next hands on what the function finds, or tears the tape where it stood.
func next[T any](t *Tape, there func(*Tape) (T, bool)) T {
	var nothing T
	if t.Torn() {
		return nothing
	}
	place := t.at
	found, is := there(t)
	if !is {
		t.at, t.torn = place, true
		return nothing
	}
	return found
}

// piece goes behind so many bytes, if they are there. (A size may be greater than any int.)
func (t *Tape) piece(size uint64) ([]byte, bool) {
	rest := t.bytes[t.at:]
	if size > uint64(len(rest)) {
		return nil, false
	}
	t.at += int(size)
	return rest[:size], true
}

func byteThere(t *Tape) (byte, bool) {
	b, is := t.piece(1)
	if !is {
		return 0, false
	}
	return b[0], true
}

// numberThere takes no last byte that is 0: there is one way alone to put a number.
func numberThere(t *Tape) (uint64, bool) {
	size, is := byteThere(t)
	if !is || size > wordBytes {
		return 0, false
	}
	b, is := t.piece(uint64(size))
	if !is || size > 0 && b[size-1] == 0 {
		return 0, false
	}
	var n uint64
	for i, c := range b {
		n |= inWord(c, i)
	}
	return n, true
}

// textThere holds the length against most ahead of its bytes: none is taken of a text that is too long.
func textThere(t *Tape, most int) (string, bool) {
	size, is := numberThere(t)
	if !is || most < 0 || size > uint64(most) {
		return "", false
	}
	b, is := t.piece(size)
	return string(b), is
}

// Pack: a text in words. (P1.3)
func Pack(s string) []uint64 {
	l := make([]uint64, (len(s)+wordBytes-1)/wordBytes)
	for i := range len(s) {
		l[i/wordBytes] |= inWord(s[i], i%wordBytes)
	}
	return l
}

// Unpack: the text of words. (P1.3)
func Unpack(l []uint64, n int) (string, api.Errno) {
	// The last byte's word is asked for: eight times the words might be above all ints.
	if n < 0 || n > 0 && (n-1)/wordBytes >= len(l) {
		return "", api.ErrArg
	}
	b := make([]byte, n)
	for i := range b {
		b[i] = byteOf(l[i/wordBytes], i%wordBytes)
	}
	return string(b), api.OK
}

// byteOf: the byte i of a word, the lowest one 0.
func byteOf(w uint64, i int) byte {
	return byte(w >> (8 * i))
}

// inWord: a word that has this byte at i alone.
func inWord(c byte, i int) uint64 {
	return uint64(c) << (8 * i)
}

// Package pack is layer 1: it encodes numbers, strings and flags one after the other, and decodes them strictly. See shared/doc/01-pack.md.
package pack

import "strings"

const (
	sevenBits = 0x7f // what a byte holds of a number
	follows   = 0x80 // says that another byte of it follows
	mostBytes = 10   // of a number: nine hold 63 bits
	lastBit   = 1    // so a tenth one holds no more than this
)

// Num returns the bytes b, followed by each number of l, packed.
func Num(b []byte, l ...uint64) []byte { return appendEach(b, l, appendNum) }

// Int returns the bytes b, followed by each signed number of l, packed.
func Int(b []byte, l ...int64) []byte { return appendEach(b, l, appendInt) }

// Text returns the bytes b, followed by each string of l, packed.
func Text(b []byte, l ...string) []byte { return appendEach(b, l, appendText) }

// Flag returns the bytes b, followed by each flag of l, packed.
func Flag(b []byte, l ...bool) []byte { return appendEach(b, l, appendFlag) }

// appendEach works on a copy, because what is behind b in its memory may be somebody else's.
func appendEach[T any](b []byte, l []T, pack func([]byte, T) []byte) []byte {
	out := append(make([]byte, 0, len(b)+len(l)), b...)
	for _, x := range l {
		out = pack(out, x)
	}
	return out
}

func appendNum(b []byte, n uint64) []byte {
	for n > sevenBits {
		b = append(b, byte(n)|follows)
		n >>= 7
	}
	return append(b, byte(n))
}

// appendInt lets a number and its sign change places, so that small magnitudes are short with either sign.
func appendInt(b []byte, n int64) []byte {
	return appendNum(b, uint64(n)<<1^uint64(n>>63))
}

func appendText(b []byte, s string) []byte {
	return append(appendNum(b, uint64(len(s))), s...)
}

func appendFlag(b []byte, f bool) []byte {
	if f {
		return append(b, 1)
	}
	return append(b, 0)
}

// Reader reads a string that was packed, from its beginning on. It is fine until a call finds something else than it asks for. Only what Open returned is a reader: nil, a zero one, and a copy are not fine.
type Reader struct {
	self *Reader // the reader itself, while it is fine: neither a zero one nor a copy passes for it
	left string
	fail func()
}

// Open returns a reader of s.
func Open(s string) *Reader {
	r := &Reader{left: s}
	r.self = r
	r.fail = r.stop
	return r
}

// stop makes the reader a zero one: that already returns nothing but zero values, and does not advance.
func (r *Reader) stop() {
	*r = Reader{}
}

// Fine reports whether all calls so far found what they asked for.
func (r *Reader) Fine() bool {
	return r != nil && r.self == r
}

// Over reports whether the reader is fine and at the end.
func (r *Reader) Over() bool {
	return r.Fine() && r.left == ""
}

// Num reads a number.
func (r *Reader) Num() uint64 {
	if !r.Fine() {
		return 0
	}
	n, ok := readNum(r.bytes())
	if !ok {
		r.fail()
		return 0
	}
	return n
}

// Int reads a signed number.
func (r *Reader) Int() int64 {
	n := r.Num()
	return int64(n>>1) ^ -int64(n&1)
}

// Text reads a string of at most most bytes.
func (r *Reader) Text(most int) string {
	n := r.Num()
	if !r.Fine() {
		return ""
	}
	// What is left comes first: it keeps n within the numbers of an int.
	if n > uint64(len(r.left)) || int(n) > most {
		r.fail()
		return ""
	}
	s := strings.Clone(r.left[:n])
	r.left = r.left[n:]
	return s
}

// Flag reads a flag.
func (r *Reader) Flag() bool {
	if !r.Fine() {
		return false
	}
	next := r.bytes()
	b, ok := next()
	if !ok || b > 1 {
		r.fail()
		return false
	}
	return b == 1
}

// bytes returns a function that takes the next byte of what is left; false: there is none.
func (r *Reader) bytes() func() (byte, bool) {
	return func() (byte, bool) {
		if r.left == "" {
			return 0, false
		}
		b := r.left[0]
		r.left = r.left[1:]
		return b, true
	}
}

// readNum refuses each number that appendNum would have written otherwise: only so each number has one form.
func readNum(next func() (byte, bool)) (uint64, bool) {
	var n uint64
	for i := range mostBytes {
		b, ok := next()
		if !ok || i > 0 && b == 0 || i == mostBytes-1 && b > lastBit {
			return 0, false
		}
		n |= uint64(b&sevenBits) << (7 * i)
		if b < follows {
			return n, true
		}
	}
	return 0, false
}

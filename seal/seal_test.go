package seal_test

import (
	"hash/crc64"
	"math"
	"strings"
	"testing"
	"unsafe"

	"forebay/seal"
)

const divisor = 0xC96C5795D7870F42

// plainMore computes bit by bit, as the chapter describes it.
func plainMore(sum uint64, s string) uint64 {
	register := ^sum
	for i := range len(s) {
		register ^= uint64(s[i])
		for range 8 {
			out := register & 1
			register >>= 1
			if out == 1 {
				register ^= divisor
			}
		}
	}
	return ^register
}

// numbers returns a function that answers other numbers of 64 bits each time, the same ones in each run.
func numbers() func() uint64 {
	state := uint64(1)
	return func() uint64 {
		state = state*6364136223846793005 + 1442695040888963407
		return state ^ state>>29 ^ state<<23
	}
}

// mixed returns a string of n bytes of all kinds.
func mixed(n int) string {
	next := numbers()
	b := make([]byte, n)
	for i := range b {
		b[i] = byte(next() >> 32)
	}
	return string(b)
}

// samples are strings of all lengths up to 70, and longer ones: of the same byte, of text, of all kinds of bytes.
func samples() []string {
	l := []string{"123456789", "abc", "\x00\xff\n", mixed(255), mixed(256), mixed(257), mixed(5000), strings.Repeat("long ", 5000)}
	for n := range 71 {
		l = append(l, strings.Repeat("\x00", n), strings.Repeat("\xff", n), strings.Repeat("a", n), mixed(n))
	}
	return l
}

func TestSum(t *testing.T) { // P2.1
	for _, c := range []struct {
		s    string
		want uint64
	}{
		{"", 0},
		{"123456789", 0x995dc9bbdf1939fa},
		{strings.Repeat("\xff", 8), math.MaxUint64}, // the register becomes 0
	} {
		if got := seal.Sum(c.s); got != c.want {
			t.Errorf("%q: %x, not %x", c.s, got, c.want)
		}
	}
	table := crc64.MakeTable(crc64.ECMA)
	for _, s := range samples() {
		got := seal.Sum(s)
		if want := plainMore(0, s); got != want {
			t.Errorf("%d bytes: %x, not %x", len(s), got, want)
		}
		if want := crc64.Checksum([]byte(s), table); got != want {
			t.Errorf("%d bytes: %x, of XZ %x", len(s), got, want)
		}
		if again := seal.Sum(s); again != got {
			t.Errorf("%d bytes: %x, then %x", len(s), got, again)
		}
	}
}

func TestSumOfShort(t *testing.T) { // P2.1
	for i := range 256 {
		one := string([]byte{byte(i)})
		if got, want := seal.Sum(one), plainMore(0, one); got != want {
			t.Errorf("%x: %x, not %x", one, got, want)
		}
		for j := range 256 {
			two := string([]byte{byte(i), byte(j)})
			if got, want := seal.Sum(two), plainMore(0, two); got != want {
				t.Fatalf("%x: %x, not %x", two, got, want)
			}
		}
	}
}

func TestMore(t *testing.T) { // P2.1
	for _, s := range samples() {
		want, step := seal.Sum(s), 1+len(s)/100
		for i := 0; i <= len(s); i += step {
			if got := seal.More(seal.Sum(s[:i]), s[i:]); got != want {
				t.Fatalf("%d bytes, %d before: %x, not %x", len(s), i, got, want)
			}
		}
		if got := seal.More(0, s); got != want {
			t.Errorf("%d bytes behind none: %x, not %x", len(s), got, want)
		}
		var sum uint64
		for i := range len(s) {
			sum = seal.More(sum, s[i:i+1])
		}
		if sum != want {
			t.Errorf("%d bytes one by one: %x, not %x", len(s), sum, want)
		}
	}
}

// Each number is the sum of some string, so More must go on from each.
func TestMoreOfAny(t *testing.T) { // P2.1
	sums := []uint64{0, 1, math.MaxUint64, 1 << 63, math.MaxInt64, divisor}
	next := numbers()
	for range 200 {
		sums = append(sums, next())
	}
	for _, sum := range sums {
		if got := seal.More(sum, ""); got != sum {
			t.Errorf("%x and nothing: %x", sum, got)
		}
		for _, s := range []string{"\x00", "\x01", "\xff", "a", "123456789", mixed(100)} {
			if got, want := seal.More(sum, s), plainMore(sum, s); got != want {
				t.Errorf("%x and %x: %x, not %x", sum, s, got, want)
			}
		}
	}
}

func TestSealAndOpen(t *testing.T) { // P2.2
	for _, c := range []struct{ s, want string }{
		{"", "\x00\x00\x00\x00\x00\x00\x00\x00"},
		{"123456789", "123456789\xfa\x39\x19\xdf\xbb\xc9\x5d\x99"},
		{strings.Repeat("\xff", 8), strings.Repeat("\xff", 16)},
	} {
		if got := seal.Seal(c.s); got != c.want {
			t.Errorf("%x: %x, not %x", c.s, got, c.want)
		}
	}
	for _, s := range samples() {
		for range 3 { // what is sealed can be sealed too
			sealed := seal.Seal(s)
			if len(sealed) != len(s)+8 || sealed[:len(s)] != s {
				t.Fatalf("%d bytes: %d of them sealed", len(s), len(sealed))
			}
			for i := range 8 {
				if sealed[len(s)+i] != byte(plainMore(0, s)>>(8*i)) {
					t.Fatalf("%d bytes: the sum is %x", len(s), sealed[len(s):])
				}
			}
			if got, is := seal.Open(sealed); !is || got != s {
				t.Fatalf("%d bytes: opened %v, %d", len(s), is, len(got))
			}
			s = sealed
		}
	}
}

// opens reports whether s opens; with a false there must be no string.
func opens(t *testing.T, s string) bool {
	got, is := seal.Open(s)
	if !is && got != "" {
		t.Errorf("%x: not sealed, but %x", s, got)
	}
	return is
}

func TestNotSealed(t *testing.T) { // P2.2
	backwards := "123456789\x99\x5d\xc9\xbb\xdf\x19\x39\xfa"
	inverted := "123456789\x05\xc6\xe6\x20\x44\x36\xa2\x66"
	for _, s := range []string{"123456789", "12345678", "1234567", backwards, inverted, "a\x00\x00\x00\x00\x00\x00\x00\x00", strings.Repeat("\xff", 8)} {
		if opens(t, s) {
			t.Errorf("%x opens", s)
		}
	}
	for n := range 40 {
		s := mixed(n)
		if n < 8 && (opens(t, s) || opens(t, strings.Repeat("\x00", n))) {
			t.Errorf("%d bytes open", n)
		}
		sealed := seal.Seal(s)
		for i := range len(sealed) {
			if opens(t, sealed[:i]) {
				t.Errorf("%d bytes, sealed, cut to %d: opens", n, i)
			}
		}
		for i := range 256 {
			more := string([]byte{byte(i)})
			if opens(t, sealed+more) || opens(t, more+sealed) {
				t.Errorf("%d bytes, sealed, and %x: opens", n, more)
			}
		}
	}
}

// Of no bytes exactly one sum is right, so of all strings of eight bytes exactly one opens.
func TestEightBytes(t *testing.T) { // P2.2
	if s, is := seal.Open("\x00\x00\x00\x00\x00\x00\x00\x00"); !is || s != "" {
		t.Error("the empty string, sealed:", s, is)
	}
	for i := range 8 {
		for j := 1; j < 256; j++ {
			b := make([]byte, 8)
			b[i] = byte(j)
			if opens(t, string(b)) {
				t.Errorf("%x opens", b)
			}
		}
	}
}

// within reports whether a begins in the memory of b.
func within(a, b string) bool {
	at, from := uintptr(unsafe.Pointer(unsafe.StringData(a))), uintptr(unsafe.Pointer(unsafe.StringData(b)))
	return at >= from && at < from+uintptr(len(b))
}

func TestNewMemory(t *testing.T) { // P2.2
	s := mixed(1000)
	sealed := seal.Seal(s)
	if within(sealed, s) {
		t.Error("Seal shares memory with its argument")
	}
	if got, is := seal.Open(sealed); !is || within(got, sealed) {
		t.Error("Open shares memory with its argument")
	}
}

// invert inverts the bits of s from the bit from on where those of pattern are 1; bits behind the end are left out.
func invert(s string, from int, pattern uint64) string {
	b := []byte(s)
	for i := range 64 {
		if at := from + i; at < 8*len(b) {
			b[at/8] ^= byte(pattern>>i&1) << (at % 8)
		}
	}
	return string(b)
}

// All patterns of ten consecutive bits, everywhere in short sealed strings.
func TestFewBitsInverted(t *testing.T) { // P2.3
	for n := range 13 {
		sealed := seal.Seal(mixed(n))
		for from := range 8 * len(sealed) {
			for pattern := uint64(1); pattern < 1<<10; pattern += 2 {
				if opens(t, invert(sealed, from, pattern)) {
					t.Fatalf("%d bytes, from bit %d on %b: opens", n, from, pattern)
				}
			}
		}
	}
}

// patterns are of up to 64 consecutive bits, of which the first one is inverted.
func patterns() []uint64 {
	l := []uint64{1, 1<<63 | 1, math.MaxUint64, divisor | 1, 0x5555555555555555, math.MaxUint32, 0xff000000000000ff}
	next := numbers()
	for i := range 64 {
		l = append(l, next()|1, math.MaxUint64>>i, 1|1<<i, next()>>i|1)
	}
	return l
}

func TestManyBitsInverted(t *testing.T) { // P2.3
	for _, n := range []int{0, 1, 7, 8, 9, 16, 50} {
		for _, s := range []string{mixed(n), strings.Repeat("\x00", n), strings.Repeat("\xff", n)} {
			sealed := seal.Seal(s)
			for from := range 8 * len(sealed) {
				for _, pattern := range patterns() {
					if opens(t, invert(sealed, from, pattern)) {
						t.Fatalf("%x, from bit %d on %b: opens", s, from, pattern)
					}
				}
			}
		}
	}
	long := seal.Seal(mixed(5000))
	for _, from := range []int{0, 1, 20000, 8*5000 - 64, 8*5000 - 63, 8*5000 - 32, 8*5000 - 1, 8 * 5000, 8*5000 + 63} {
		for _, pattern := range patterns() {
			if opens(t, invert(long, from, pattern)) {
				t.Fatalf("5000 bytes, from bit %d on %b: opens", from, pattern)
			}
		}
	}
}

// Within 65 consecutive bits there is one way to invert some that is not found: a 1 that leaves the register, and what that is combined with. That it opens in each place, also across both, shows that string and sum are one sequence of bits, and that the tests above invert what the chapter means.
func TestOneBitMore(t *testing.T) { // P2.3
	for _, n := range []int{1, 8, 9, 30} {
		s := mixed(n)
		sealed := seal.Seal(s)
		for from := range 8 * n {
			other := invert(invert(sealed, from, 1), from+1, divisor)
			if got, is := seal.Open(other); !is || got == s || got != other[:n] {
				t.Errorf("%d bytes, from bit %d on: %v", n, from, is)
			}
		}
	}
}

// both returns the exclusive or of two strings of the same length.
func both(a, b string) string {
	l := make([]byte, len(a))
	for i := range l {
		l[i] = a[i] ^ b[i]
	}
	return string(l)
}

func TestExclusiveOr(t *testing.T) { // P2.4
	for n := range 300 {
		a, zeros := mixed(n), strings.Repeat("\x00", n)
		other := mixed(n + 5)[5:]
		for _, b := range []string{other, a, zeros, strings.Repeat("\xff", n), strings.Repeat("b", n)} {
			if got, want := seal.Sum(a)^seal.Sum(b)^seal.Sum(zeros), seal.Sum(both(a, b)); got != want {
				t.Errorf("%x and %x: %x, not %x", a, b, got, want)
			}
		}
	}
}

func TestZeroInFront(t *testing.T) { // P2.4
	for _, s := range samples() {
		front := s
		for range 3 {
			before := seal.Sum(front)
			front = "\x00" + front
			if seal.Sum(front) == before {
				t.Errorf("%d bytes: the sum stays %x", len(s), before)
			}
		}
		if opens(t, "\x00"+seal.Seal(s)) {
			t.Errorf("%d bytes, sealed, open behind a zero byte", len(s))
		}
	}
}

func TestZeroBehind(t *testing.T) { // P2.4
	s := strings.Repeat("\xff", 8)
	for n := range 20 {
		if got := seal.Sum(s + strings.Repeat("\x00", n)); got != math.MaxUint64 {
			t.Errorf("%d zero bytes behind: %x", n, got)
		}
	}
}

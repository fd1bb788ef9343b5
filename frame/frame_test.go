package frame_test

import (
	"hash/crc64"
	"math"
	"slices"
	"strings"
	"testing"
	"unsafe"

	"forebay/api"
	"forebay/frame"
)

const (
	most = 1 << 18 // bytes of a frame's string, written out, so that a wrong limit does not agree with itself
	more = 20      // bytes of a frame, beside its string
)

var table = crc64.MakeTable(crc64.ECMA)

// lowest returns n in so many bytes, the lowest one first.
func lowest(n uint64, bytes int) string {
	b := make([]byte, bytes)
	for i := range b {
		b[i] = byte(n >> (8 * i))
	}
	return string(b)
}

// sealed is as layer 2 describes it, by the library's sums.
func sealed(s string) string { return s + lowest(crc64.Checksum([]byte(s), table), 8) }

// plain returns the frames of all strings of l, as the chapter describes them.
func plain(l ...string) string {
	b := ""
	for _, s := range l {
		b += sealed(lowest(uint64(len(s)), 4)) + sealed(s)
	}
	return b
}

// numbers returns a function that answers other numbers of 64 bits each time, the same ones in each run.
func numbers() func() uint64 {
	state := uint64(1)
	return func() uint64 {
		state = state*6364136223846793005 + 1442695040888963407
		return state ^ state>>29 ^ state<<23
	}
}

// mixed returns a string of n bytes of all kinds.
func mixed(n int) string {
	next := numbers()
	b := make([]byte, n)
	for i := range b {
		b[i] = byte(next() >> 32)
	}
	return string(b)
}

// put returns what Put returns, which must be without an error.
func put(t *testing.T, l ...string) string {
	t.Helper()
	b, e := frame.Put(l...)
	if e != api.OK {
		t.Fatalf("Put of %d strings is %d", len(l), e)
	}
	return b
}

// scans fails where Scan of b does not return exactly the strings of want, and their frames' bytes.
func scans(t *testing.T, what, b string, want ...string) {
	t.Helper()
	size := 0
	for _, s := range want {
		size += more + len(s)
	}
	l, n := frame.Scan(b)
	if !slices.Equal(l, want) || n != size {
		t.Fatalf("%s: Scan returns %d strings and %d, not %d and %d", what, len(l), n, len(want), size)
	}
}

// lists are of no, one and more strings, short and long ones, of all kinds of bytes, and frames among them.
func lists() [][]string {
	l := [][]string{
		nil, {""}, {"", "", ""}, {"ab"}, {"ab", "", "cde"}, {"\x00"}, {"\x00\x00\x00\x00", "\xff\xff\xff\xff"},
		{"same", "same", "same"}, {plain("inner", ""), plain(plain("a"), "b"), "outer"}, {strings.Repeat("\x00", 100), strings.Repeat("\xff", 100)},
	}
	var all []string
	for n := range 50 {
		l = append(l, []string{mixed(n)})
		all = append(all, mixed(n))
	}
	l = append(l, all, slices.Repeat([]string{""}, 1000))
	for _, n := range []int{255, 256, 257, 65535, 65536, 65537, most - 1, most} { // where the length's bytes change
		l = append(l, []string{mixed(n)}, []string{"before", mixed(n), "behind"})
	}
	return l
}

func TestPut(t *testing.T) { // P6.1
	for _, c := range []struct {
		l    []string
		want string
	}{
		{nil, ""},
		{[]string{}, ""},
		{[]string{""}, strings.Repeat("\x00", 4) + lowest(crc64.Checksum(make([]byte, 4), table), 8) + strings.Repeat("\x00", 8)},
		{[]string{"123456789"}, sealed("\x09\x00\x00\x00") + "123456789\xfa\x39\x19\xdf\xbb\xc9\x5d\x99"},
	} {
		if got := put(t, c.l...); got != c.want {
			t.Errorf("%q: %x, not %x", c.l, got, c.want)
		}
	}
	for _, l := range lists() {
		if got := put(t, l...); got != plain(l...) {
			t.Errorf("%d strings: %d bytes, not %d, or others", len(l), len(got), len(plain(l...)))
		}
	}
	if b := put(t, "ab"); len(b) != 22 || b[:4] != "\x02\x00\x00\x00" || b[12:14] != "ab" {
		t.Errorf("ab: %x", b)
	}
	if b := put(t, strings.Repeat("x", most)); b[:4] != "\x00\x00\x04\x00" {
		t.Errorf("the longest string: %x", b[:4])
	}
}

func TestPutTooLong(t *testing.T) { // P6.1
	long := strings.Repeat("x", most+1)
	for i, l := range [][]string{{long}, {long, "a"}, {"a", long}, {"a", long, "b"}, {long, long}, {"", strings.Repeat("y", most), long + long}} {
		if b, e := frame.Put(l...); e != api.ErrLong || b != "" {
			t.Errorf("list %d: %d, with %d bytes", i, e, len(b))
		}
	}
	b := put(t, long[1:], "", long[1:]) // each may have so many
	scans(t, "the longest strings", b, long[1:], "", long[1:])
}

func TestPutLeavesItsList(t *testing.T) { // P6.1
	l := []string{"ab", "", "cde", "behind"}
	put(t, l[:2]...)
	frame.Put(l[0], strings.Repeat("x", most+1))
	if !slices.Equal(l, []string{"ab", "", "cde", "behind"}) {
		t.Errorf("the list became %q", l)
	}
}

func TestCost(t *testing.T) { // P6.1
	for _, c := range [][2]int{
		{0, 20}, {1, 21}, {2, 22}, {5, 25}, {255, 275}, {256, 276}, {most - 1, most + 19}, {most, most + 20}, {most + 1, most + 21}, {1 << 31, 1<<31 + 20},
		{-1, 20}, {-3, 20}, {-20, 20}, {-21, 20}, {-most, 20}, {math.MinInt, 20}, {math.MinInt + 1, 20}, {math.MaxInt - 20, math.MaxInt},
	} {
		if got := frame.Cost(c[0]); got != c[1] {
			t.Errorf("%d: %d, not %d", c[0], got, c[1])
		}
	}
	for _, l := range lists() {
		size := 0
		for _, s := range l {
			size += frame.Cost(len(s))
		}
		if got := len(put(t, l...)); got != size {
			t.Errorf("%d strings: %d bytes, of a cost of %d", len(l), got, size)
		}
	}
	frame.Cost(math.MaxInt) // ends, too
}

func TestScan(t *testing.T) { // P6.2
	b := plain("ab", "", "cde")
	scans(t, "nothing", "")
	scans(t, "three frames", b, "ab", "", "cde")
	scans(t, "a frame and 21 bytes more", plain("ab")+plain("cd")[:21], "ab")
	scans(t, "a frame and 21 of its bytes", plain("ab")+plain("ab")[:21], "ab")
	scans(t, "frames and other bytes", b+"x", "ab", "", "cde")
	scans(t, "frames and zero bytes", b+strings.Repeat("\x00", 60), "ab", "", "cde")
	scans(t, "frames behind another byte", "x"+b)
	scans(t, "frames behind a zero byte", "\x00"+b)
	scans(t, "frames, the first byte of them gone", b[1:])
	scans(t, "frames with a byte between", plain("ab")+"x"+plain("cd"), "ab")
	scans(t, "frames with a byte missing between", plain("ab")[:21]+plain("cd"))
	scans(t, "text", strings.Repeat("no frame ", 20))
	for n := range 70 {
		scans(t, "zero bytes", strings.Repeat("\x00", n))
		scans(t, "bytes ff", strings.Repeat("\xff", n))
		scans(t, "bytes of all kinds", mixed(n))
		scans(t, "zero bytes, sealed", sealed(strings.Repeat("\x00", n)))
		scans(t, "bytes of all kinds, sealed", sealed(mixed(n)))
		scans(t, "bytes of all kinds behind a frame", plain("ab")+mixed(n), "ab")
	}
}

// Bytes that are almost frames: each part is sealed, but something else is wrong. Behind each is a frame, so that there are bytes enough.
func TestScanOfAlmostFrames(t *testing.T) { // P6.2
	s := mixed(300)
	length := func(n uint64) string { return sealed(lowest(n, 4)) }
	for _, c := range []struct{ what, b string }{
		{"a length that is a byte short", length(299) + sealed(s)},
		{"a length that is a byte long", length(301) + sealed(s)},
		{"a length of all that is sealed", length(308) + sealed(s)},
		{"a length of 0", length(0) + sealed(s)},
		{"no length", sealed(s)},
		{"no string", length(300)},
		{"two lengths", length(300) + length(300) + sealed(s)},
		{"a length that is not sealed", lowest(300, 4) + sealed(s)},
		{"a length and zero bytes for its sum", lowest(300, 4) + strings.Repeat("\x00", 8) + sealed(s)},
		{"a string that is not sealed", length(300) + s},
		{"a string and zero bytes for its sum", length(300) + s + strings.Repeat("\x00", 8)},
		{"the highest byte first", sealed("\x00\x00\x01\x2c") + sealed(s)},
		{"a length of two bytes", sealed(lowest(300, 2)) + sealed(s)},
		{"a length of three bytes", sealed(lowest(300, 3)) + sealed(s)},
		{"a length of eight bytes", sealed(lowest(300, 8)) + sealed(s)},
		{"a sum of length and string", lowest(300, 4) + s + sealed(lowest(300, 4) + s)[304:]},
		{"the string first", sealed(s) + length(300)},
		{"an empty string with another one's length", length(1) + sealed("")},
	} {
		scans(t, c.what, c.b+plain(mixed(400)))
		scans(t, c.what+", behind frames", plain("ab", "")+c.b+plain(mixed(400)), "ab", "")
	}
}

// A frame's string has at most MaxFrame bytes, so what is put together with a longer one is no frame.
func TestScanOfTooLong(t *testing.T) { // P6.2
	for _, n := range []int{most - 1, most} {
		s := strings.Repeat("x", n)
		scans(t, "a string that is not too long", plain("ab", s, "cd"), "ab", s, "cd")
	}
	for _, n := range []int{most + 1, most + 2, 2 * most, 1 << 20} {
		scans(t, "a string that is too long", plain("ab", strings.Repeat("x", n), "cd"), "ab")
	}
}

// Lengths of which so many bytes are not there, up to the greatest ones that four bytes hold.
func TestScanOfGreatLengths(t *testing.T) { // P6.2
	for _, n := range []uint64{101, most, most + 1, 1<<24 - 1, 1 << 24, math.MaxInt32 - 20, math.MaxInt32, 1 << 31, math.MaxUint32 - 20, math.MaxUint32 - 19, math.MaxUint32} {
		scans(t, "a great length", plain("ab")+sealed(lowest(n, 4))+sealed(strings.Repeat("x", 100)), "ab")
	}
	for n := range uint64(30) {
		b := sealed(lowest(math.MaxUint32-n, 4))
		scans(t, "a great length and nothing", b)
		scans(t, "a great length and an empty string", b+sealed(""))
	}
}

func TestPutAndScan(t *testing.T) { // P6.3
	for _, l := range lists() {
		b := put(t, l...)
		scans(t, "what was put", b, l...)
		if again, e := frame.Put(l...); again != b || e != api.OK {
			t.Errorf("%d strings: put again otherwise", len(l))
		}
		scans(t, "what was put, twice", b+b, append(slices.Clone(l), l...)...)
	}
}

// whole returns how many of the frames of l are complete in their first n bytes.
func whole(l []string, n int) int {
	for i, s := range l {
		if n -= more + len(s); n < 0 {
			return i
		}
	}
	return len(l)
}

func TestCut(t *testing.T) { // P6.3
	for _, l := range lists() {
		b := put(t, l...)
		step := 1 + len(b)/2000
		for n := 0; n <= len(b); n += step {
			scans(t, "what was put, cut", b[:n], l[:whole(l, n)]...)
		}
	}
	l := []string{"before", mixed(most), "", mixed(70000), "behind"}
	b, end := put(t, l...), 0
	for _, s := range l {
		end += more + len(s)
		for n := max(end-40, 0); n <= min(end+40, len(b)); n++ {
			scans(t, "what was put, cut near a frame's end", b[:n], l[:whole(l, n)]...)
		}
	}
}

// A frame that is cut is not completed by what comes next.
func TestCutAndMore(t *testing.T) { // P6.3
	b, next := put(t, "first", "second one"), put(t, "third")
	for n := more + 5; n < len(b); n++ {
		scans(t, "frames behind one that is cut", b[:n]+next+next, append([]string{"first"}, onlyAt(n, more+5, "third", "third")...)...)
	}
}

// onlyAt returns l where n is at, nothing elsewhere.
func onlyAt(n, at int, l ...string) []string {
	if n == at {
		return l
	}
	return nil
}

// invert inverts the bits of b from the bit from on where those of pattern are 1; bits from the bit end on are left out. It reports whether there was one.
func invert(b string, from, end int, pattern uint64) (string, bool) {
	l := []byte(b)
	for i := range 64 {
		if at := from + i; at < end {
			l[at/8] ^= byte(pattern>>i&1) << (at % 8)
		}
	}
	return string(l), string(l) != b
}

// inverts inverts bits by each pattern everywhere in each frame of l, and expects exactly the strings before it.
func inverts(t *testing.T, l []string, patterns []uint64) {
	t.Helper()
	b, begin := put(t, l...), 0
	for i, s := range l {
		end := begin + more + len(s)
		for from := 8 * begin; from < 8*end; from++ {
			for _, pattern := range patterns {
				if other, is := invert(b, from, 8*end, pattern); is {
					scans(t, "inverted bits", other, l[:i]...)
				}
			}
		}
		begin = end
	}
}

// All patterns of eight consecutive bits, everywhere in short frames.
func TestFewBitsInverted(t *testing.T) { // P6.4
	var patterns []uint64
	for pattern := uint64(1); pattern < 1<<8; pattern += 2 {
		patterns = append(patterns, pattern)
	}
	inverts(t, []string{"", "ab", "", "cde"}, patterns)
	inverts(t, []string{strings.Repeat("\x00", 12), strings.Repeat("\xff", 12)}, patterns)
}

func TestManyBitsInverted(t *testing.T) { // P6.4
	patterns := []uint64{1, 1<<63 | 1, math.MaxUint64, 0xC96C5795D7870F42 | 1, 0x5555555555555555, math.MaxUint32, 0xff000000000000ff}
	next := numbers()
	for i := range 12 {
		patterns = append(patterns, next()|1, math.MaxUint64>>(5*i), 1|1<<(5*i), next()>>(5*i)|1)
	}
	inverts(t, []string{"", mixed(9), plain("inner"), ""}, patterns)
	inverts(t, []string{strings.Repeat("\x00", 20), strings.Repeat("\xff", 20)}, patterns)
	inverts(t, []string{mixed(40), "x"}, patterns)
}

// A short frame whose length became another one, as that of a string that ends elsewhere would be; its sum did not.
func TestOtherLengths(t *testing.T) { // P6.4
	const in = "a string of some bytes"
	b := put(t, "before", in, "behind", strings.Repeat("far ", 100))
	at := more + len("before")
	for n := range uint32(300) {
		length := lowest(uint64(n), 4)
		if int(n) != len(in) {
			scans(t, "another length", b[:at]+length+b[at+4:], "before")
		}
	}
}

// In long frames, where length, string and sums meet.
func TestLongInverted(t *testing.T) { // P6.4
	l := []string{"before", mixed(70000), "behind"}
	b := put(t, l...)
	begin := 8 * (more + len(l[0]))
	end := begin + 8*(more+len(l[1]))
	for _, from := range []int{begin, begin + 1, begin + 31, begin + 32, begin + 33, begin + 40, begin + 90, begin + 95, begin + 96, begin + 200000, end - 128, end - 65, end - 64, end - 63, end - 1} {
		for _, pattern := range []uint64{1, 3, 1<<63 | 1, math.MaxUint64, 0x5555555555555555} {
			if other, is := invert(b, from, end, pattern); is {
				scans(t, "inverted bits of a long frame", other, "before")
			}
		}
	}
}

// within reports whether a begins in the memory of b.
func within(a, b string) bool {
	at, from := uintptr(unsafe.Pointer(unsafe.StringData(a))), uintptr(unsafe.Pointer(unsafe.StringData(b)))
	return at >= from && at < from+uintptr(len(b))
}

func TestNewMemory(t *testing.T) { // P6.1, P6.2
	s := mixed(1000)
	b := put(t, s, "other")
	if within(b, s) {
		t.Error("Put shares memory with its argument")
	}
	l, _ := frame.Scan(b)
	again, _ := frame.Scan(b)
	for i := range l {
		if within(l[i], b) || within(l[i], again[i]) || within(again[i], l[i]) {
			t.Errorf("string %d shares memory with an argument, or another answer", i)
		}
	}
	clear(l[:cap(l)])
	if !slices.Equal(again, []string{s, "other"}) {
		t.Error("two answers share their lists")
	}
}

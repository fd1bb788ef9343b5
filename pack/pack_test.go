package pack_test

import (
	"bytes"
	"math"
	"strings"
	"testing"

	"forebay/pack"
)

const nines = "\xff\xff\xff\xff\xff\xff\xff\xff\xff"

// plainNum packs by division, as the chapter describes it.
func plainNum(n uint64) string {
	if n < 128 {
		return string([]byte{byte(n)})
	}
	return string([]byte{byte(n%128 + 128)}) + plainNum(n/128)
}

// edges are the numbers around each power of two, and some between.
func edges() []uint64 {
	l := []uint64{0, math.MaxUint64, 300, 0x0123456789abcdef, 0xfedcba9876543210}
	for i := range 64 {
		p := uint64(1) << i
		l = append(l, p-1, p, p+1, p+p/3)
	}
	return l
}

func TestNum(t *testing.T) { // P1.1
	for _, c := range []struct {
		l    []uint64
		want string
	}{
		{nil, ""},
		{[]uint64{}, ""},
		{[]uint64{0}, "\x00"},
		{[]uint64{1}, "\x01"},
		{[]uint64{127}, "\x7f"},
		{[]uint64{128}, "\x80\x01"},
		{[]uint64{300}, "\xac\x02"},
		{[]uint64{16383}, "\xff\x7f"},
		{[]uint64{16384}, "\x80\x80\x01"},
		{[]uint64{1<<63 - 1}, "\xff\xff\xff\xff\xff\xff\xff\xff\x7f"},
		{[]uint64{1 << 63}, "\x80\x80\x80\x80\x80\x80\x80\x80\x80\x01"},
		{[]uint64{math.MaxUint64}, nines + "\x01"},
		{[]uint64{300, 0, 128}, "\xac\x02\x00\x80\x01"},
	} {
		if got := string(pack.Num(nil, c.l...)); got != c.want {
			t.Errorf("%d: %x, not %x", c.l, got, c.want)
		}
	}
	for _, n := range edges() {
		if got := string(pack.Num(nil, n)); got != plainNum(n) {
			t.Errorf("%d: %x, not %x", n, got, plainNum(n))
		}
	}
}

func TestInt(t *testing.T) { // P1.1
	for _, c := range []struct {
		l    []int64
		want string
	}{
		{nil, ""},
		{[]int64{0}, "\x00"},
		{[]int64{-1}, "\x01"},
		{[]int64{1}, "\x02"},
		{[]int64{63}, "\x7e"},
		{[]int64{-64}, "\x7f"},
		{[]int64{64}, "\x80\x01"},
		{[]int64{-65}, "\x81\x01"},
		{[]int64{math.MaxInt64}, "\xfe\xff\xff\xff\xff\xff\xff\xff\xff\x01"},
		{[]int64{math.MinInt64}, nines + "\x01"},
		{[]int64{1, -1, 64}, "\x02\x01\x80\x01"},
	} {
		if got := string(pack.Int(nil, c.l...)); got != c.want {
			t.Errorf("%d: %x, not %x", c.l, got, c.want)
		}
	}
	for _, u := range edges() {
		n := int64(u >> 1)
		if got := string(pack.Int(nil, n)); got != plainNum(2*uint64(n)) {
			t.Errorf("%d: %x", n, got)
		}
		if got := string(pack.Int(nil, -n-1)); got != plainNum(2*uint64(n)+1) { // -2 n - 1 of that number
			t.Errorf("%d: %x", -n-1, got)
		}
	}
}

func TestTextAndFlag(t *testing.T) { // P1.1
	long := strings.Repeat("x", 300)
	for _, c := range []struct {
		got  []byte
		want string
	}{
		{pack.Text(nil), ""},
		{pack.Text(nil, ""), "\x00"},
		{pack.Text(nil, "abc"), "\x03abc"},
		{pack.Text(nil, "", "a", "\x00\xff\n"), "\x00\x01a\x03\x00\xff\n"},
		{pack.Text(nil, long[:127]), "\x7f" + long[:127]},
		{pack.Text(nil, long[:128], "y"), "\x80\x01" + long[:128] + "\x01y"},
		{pack.Text(nil, long), "\xac\x02" + long},
		{pack.Flag(nil), ""},
		{pack.Flag(nil, true), "\x01"},
		{pack.Flag(nil, false), "\x00"},
		{pack.Flag(nil, true, true, false, true), "\x01\x01\x00\x01"},
	} {
		if string(c.got) != c.want {
			t.Errorf("%x, not %x", c.got, c.want)
		}
	}
}

// packers are the four calls, each with one element, and with none.
func packers() map[string]func(b []byte) []byte {
	return map[string]func(b []byte) []byte{
		"Num":      func(b []byte) []byte { return pack.Num(b, 7) },
		"Int":      func(b []byte) []byte { return pack.Int(b, 7) },
		"Text":     func(b []byte) []byte { return pack.Text(b, "t") },
		"Flag":     func(b []byte) []byte { return pack.Flag(b, true) },
		"Num none": func(b []byte) []byte { return pack.Num(b) },
		"Int none": func(b []byte) []byte { return pack.Int(b) },
		"no texts": func(b []byte) []byte { return pack.Text(b) },
		"no flags": func(b []byte) []byte { return pack.Flag(b) },
	}
}

func TestNewMemory(t *testing.T) { // P1.1
	for name, do := range packers() {
		behind := []byte("abcdefghijklmnopqrstuvwxyz")
		b := behind[:3]
		one, two := do(b), do(b)
		if !bytes.HasPrefix(one, []byte("abc")) || !bytes.Equal(one, two) {
			t.Errorf("%s: %q, %q", name, one, two)
		}
		if string(behind) != "abcdefghijklmnopqrstuvwxyz" {
			t.Errorf("%s: wrote behind the bytes: %q", name, behind)
		}
		kept := string(two)
		for i := range one[:cap(one)] {
			one[:cap(one)][i] = '!'
		}
		if string(behind) != "abcdefghijklmnopqrstuvwxyz" || string(two) != kept {
			t.Errorf("%s: the result shares memory: %q, %q", name, behind, two)
		}
		if got := do([]byte{}); !bytes.Equal(got, do(nil)) {
			t.Errorf("%s: an empty list is not like nil: %q", name, got)
		}
	}
}

func TestElementsInOrder(t *testing.T) { // P1.1
	b := pack.Flag(pack.Text(pack.Int(pack.Num(nil, 1, 2), -1, 1), "a", "b"), true, false)
	if string(b) != "\x01\x02\x01\x02\x01a\x01b\x01\x00" {
		t.Errorf("%x", b)
	}
	l := []uint64{3, 300}
	pack.Num(b, l...)
	if l[0] != 3 || l[1] != 300 {
		t.Error("the list was changed")
	}
}

// nothing reports whether each call on a reader that is not fine answers zero values, and leaves it so.
func nothing(r *pack.Reader) bool {
	for range 2 {
		if r.Fine() || r.Over() || r.Num() != 0 || r.Int() != 0 || r.Text(9) != "" || r.Text(0) != "" || r.Flag() {
			return false
		}
	}
	return !r.Fine() && !r.Over()
}

func TestRead(t *testing.T) { // P1.2
	r := pack.Open("\xac\x02\x7f\x03abc\x01\x00\x00")
	if !r.Fine() || r.Over() {
		t.Error("at the beginning")
	}
	if n := r.Num(); n != 300 {
		t.Error("Num", n)
	}
	if n := r.Int(); n != -64 {
		t.Error("Int", n)
	}
	if s := r.Text(3); s != "abc" {
		t.Error("Text", s)
	}
	if !r.Flag() || r.Flag() || !r.Fine() || r.Over() {
		t.Error("Flag")
	}
	if s := r.Text(0); s != "" || !r.Fine() || !r.Over() || !r.Over() {
		t.Error("the empty text at the end", s)
	}
	if n := r.Num(); n != 0 || !nothing(r) {
		t.Error("behind the end", n)
	}
	if r := pack.Open(""); !r.Fine() || !r.Over() {
		t.Error("of nothing")
	}
}

func TestReadersApart(t *testing.T) { // P1.2
	a, b := pack.Open("\x05\x06"), pack.Open("\x05\x06")
	if a.Num() != 5 || a.Num() != 6 || a.Num() != 0 || a.Fine() {
		t.Error("the first one")
	}
	if b.Num() != 5 || b.Over() || b.Num() != 6 || !b.Over() {
		t.Error("the second one")
	}
}

// wrong are bytes, and a call on a reader of them that does not find what it asks for.
type wrong struct {
	name, s string
	do      func(r *pack.Reader) bool // is its answer zero?
}

func num(r *pack.Reader) bool  { return r.Num() == 0 }
func sign(r *pack.Reader) bool { return r.Int() == 0 }
func flag(r *pack.Reader) bool { return !r.Flag() }

func text(most int) func(r *pack.Reader) bool {
	return func(r *pack.Reader) bool { return r.Text(most) == "" }
}

func wrongs() []wrong {
	l := []wrong{
		{"flag of nothing", "", flag},
		{"flag 2", "\x02", flag},
		{"flag 128", "\x80\x01", flag},
		{"flag 255", "\xff", flag},
		{"text of nothing", "", text(9)},
		{"text without its bytes", "\x01", text(9)},
		{"text cut", "\x04abc", text(9)},
		{"text longer than most", "\x03abc", text(2)},
		{"text of one byte, most 0", "\x01a", text(0)},
		{"text, most below 0", "\x03abc", text(-1)},
		{"empty text, most below 0", "\x00", text(-1)},
		{"empty text, least most", "\x00", text(math.MinInt)},
		{"text of 2^31 bytes", "\x80\x80\x80\x80\x08abc", text(math.MaxInt)},
		{"text of 2^63 - 1 bytes", "\xff\xff\xff\xff\xff\xff\xff\xff\x7fabc", text(math.MaxInt)},
		{"text of 2^63 bytes", "\x80\x80\x80\x80\x80\x80\x80\x80\x80\x01abc", text(math.MaxInt)},
		{"text of 2^64 - 1 bytes", nines + "\x01abc", text(math.MaxInt)},
		{"text of 2^64 - 1 bytes, most -1", nines + "\x01abc", text(-1)},
		{"text with a length of more bytes than it needs", "\x83\x00abc", text(9)},
		{"text with a length that is cut", "\x83", text(9)},
	}
	for _, s := range []string{
		"", "\x80", "\x80\x80", nines, // too short
		"\x80\x00", "\xff\x00", "\x81\x80\x00", nines + "\x00", nines + "\x80\x00", // more bytes than it needs
		nines + "\x02", nines + "\x03", nines + "\x7f", "\x80\x80\x80\x80\x80\x80\x80\x80\x80\x02", // too great
		nines + "\x81", nines + "\x81\x01", nines + "\x80\x01", nines + "\xff\xff\x01", // more than ten bytes
	} {
		l = append(l, wrong{"number", s, num}, wrong{"signed number", s, sign}, wrong{"text with that length", s, text(math.MaxInt)})
	}
	return l
}

func TestWrong(t *testing.T) { // P1.2
	for _, c := range wrongs() {
		if r := pack.Open(c.s); !c.do(r) || !nothing(r) {
			t.Errorf("%s: %x", c.name, c.s)
		}
		r := pack.Open("\x07" + c.s) // also past the beginning
		if r.Num() != 7 || !r.Fine() || !c.do(r) || !nothing(r) {
			t.Errorf("%s: %x after a number", c.name, c.s)
		}
	}
}

// Good bytes that follow what is wrong are not read, for the position stays.
func TestStaysWrong(t *testing.T) { // P1.2
	for _, s := range []string{"\x02\x01\x01\x01", "\x80\x00\x01\x01", "\x03a\x01\x01"} {
		r := pack.Open(s)
		if s[0] == 2 {
			r.Flag()
		} else {
			r.Text(2)
		}
		if !nothing(r) {
			t.Errorf("%x", s)
		}
	}
}

func TestFlagBytes(t *testing.T) { // P1.2
	for i := range 256 {
		r := pack.Open(string([]byte{byte(i), 1}))
		got, fine := r.Flag(), r.Fine()
		if got != (i == 1) || fine != (i < 2) {
			t.Error(i, got, fine)
		}
		if next := r.Flag(); next != fine {
			t.Error(i, "then", next)
		}
	}
}

func TestTextMost(t *testing.T) { // P1.2
	s := strings.Repeat("z", 130)
	packed := string(pack.Text(nil, s, "next"))
	for _, most := range []int{130, 131, math.MaxInt} {
		r := pack.Open(packed)
		if r.Text(most) != s || r.Text(4) != "next" || !r.Over() {
			t.Error(most)
		}
	}
	for _, most := range []int{129, 0, -1, math.MinInt} {
		r := pack.Open(packed)
		if r.Text(most) != "" || !nothing(r) {
			t.Error(most)
		}
	}
}

func TestNoReader(t *testing.T) { // P1.2, and the document's words on objects
	var none *pack.Reader
	if !nothing(none) {
		t.Error("nil")
	}
	if !nothing(new(pack.Reader)) || !nothing(&pack.Reader{}) {
		t.Error("zero")
	}
	r := pack.Open("\x02\x02")
	other := *r
	other.Flag()
	other.Num()
	if !nothing(&other) || r.Num() != 2 || r.Num() != 2 || !r.Over() {
		t.Error("a copy")
	}
}

func TestReadAsItWas(t *testing.T) { // P1.3
	texts := []string{"", "a", "\x00", "\x80\xff", strings.Repeat("long ", 5000)}
	for i, n := range edges() {
		s := texts[i%len(texts)]
		b := pack.Num([]byte{}, n)
		b = pack.Int(b, int64(n), -int64(n))
		b = pack.Text(b, s)
		b = pack.Flag(b, n%2 == 0, true)
		r := pack.Open(string(b))
		if got := r.Num(); got != n {
			t.Error(n, "Num", got)
		}
		if x, y := r.Int(), r.Int(); x != int64(n) || y != -int64(n) {
			t.Error(n, "Int", x, y)
		}
		if got := r.Text(len(s)); got != s {
			t.Errorf("%q: %q", s, got)
		}
		if r.Flag() != (n%2 == 0) || r.Over() || !r.Flag() || !r.Over() || !r.Fine() {
			t.Error(n, "Flag")
		}
	}
}

// passed returns for each beginning of s whether a call passes exactly that, and is at its end.
func passed(s string, do func(r *pack.Reader)) []string {
	var l []string
	for i := range len(s) + 1 {
		r := pack.Open(s[:i])
		if do(r); r.Over() {
			l = append(l, s[:i])
		}
	}
	return l
}

// Whatever a fine reader passed is the one form of what it read: for all short strings of bytes that count.
func TestPackedAgain(t *testing.T) { // P1.3
	alphabet := "\x00\x01\x02\x03\x7f\x80\x81\xff"
	calls := []struct {
		do    func(r *pack.Reader)
		again func(s string) []byte
	}{
		{func(r *pack.Reader) { r.Num() }, func(s string) []byte { return pack.Num(nil, pack.Open(s).Num()) }},
		{func(r *pack.Reader) { r.Int() }, func(s string) []byte { return pack.Int(nil, pack.Open(s).Int()) }},
		{func(r *pack.Reader) { r.Text(9) }, func(s string) []byte { return pack.Text(nil, pack.Open(s).Text(9)) }},
		{func(r *pack.Reader) { r.Flag() }, func(s string) []byte { return pack.Flag(nil, pack.Open(s).Flag()) }},
	}
	var try func(s string)
	try = func(s string) {
		for i, c := range calls {
			r := pack.Open(s)
			c.do(r)
			l := passed(s, c.do)
			if r.Fine() != (len(l) == 1) {
				t.Fatalf("%d: of %x it passes %x", i, s, l)
			}
			if r.Fine() && string(c.again(s)) != l[0] {
				t.Fatalf("%d: %x is %x again", i, l[0], c.again(s))
			}
		}
		if len(s) < 4 {
			for i := range len(alphabet) {
				try(s + alphabet[i:i+1])
			}
		}
	}
	try("")
}

func TestGreaterIsNotShorter(t *testing.T) { // P1.3
	for i := 1; i <= 10; i++ {
		least, most := uint64(0), uint64(math.MaxUint64)
		if i > 1 {
			least = 1 << (7 * (i - 1))
		}
		if i < 10 {
			most = 1<<(7*i) - 1
		}
		if a, b := len(pack.Num(nil, least)), len(pack.Num(nil, most)); a != i || b != i {
			t.Errorf("%d to %d: %d and %d bytes, not %d", least, most, a, b, i)
		}
	}
	before := 0
	for n := range uint64(70000) {
		long := len(pack.Num(nil, n))
		if long < before {
			t.Fatal(n)
		}
		before = long
	}
}

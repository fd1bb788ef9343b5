package unit_test

import (
	"math"
	"math/big"
	"regexp"
	"strconv"
	"strings"
	"testing"

	"forebay/api"
	"forebay/unit"
)

const (
	top  = 1 << 40 // written out, so that a wrong limit does not agree with itself
	long = 32      // bytes of a name
)

// suffix is a unit, and how many bytes it has.
type suffix struct {
	name  string
	bytes int64
}

// decimal are the units by thousands, binary those by 1024, the least first.
var (
	decimal = []suffix{{"KB", 1000}, {"MB", 1000000}, {"GB", 1000000000}, {"TB", 1000000000000}}
	binary  = []suffix{{"KiB", 1024}, {"MiB", 1048576}, {"GiB", 1073741824}, {"TiB", 1099511627776}}
)

func suffixes() []suffix { return append(append([]suffix{}, decimal...), binary...) }

// form is that of a size's text, and, without a unit, of a number's.
var form = regexp.MustCompile(`\A(0|[1-9][0-9]{0,12})(KB|MB|GB|TB|KiB|MiB|GiB|TiB)?\z`)

// quantity returns n if it is one.
func quantity(n *big.Int) (int64, bool) {
	if n.Sign() < 0 || n.Cmp(big.NewInt(top)) > 0 {
		return 0, false
	}
	return n.Int64(), true
}

// number returns what the chapter's words say of a number's text.
func number(s string) (int64, api.Errno) {
	m := form.FindStringSubmatch(s)
	if m == nil || m[2] != "" {
		return 0, api.ErrUnit
	}
	n, _ := new(big.Int).SetString(s, 10)
	if q, is := quantity(n); is {
		return q, api.OK
	}
	return 0, api.ErrUnit
}

// size returns what the chapter's words say of a size's text.
func size(s string) (int64, api.Errno) {
	m := form.FindStringSubmatch(s)
	if m == nil {
		return 0, api.ErrUnit
	}
	n, e := number(m[1])
	if e != api.OK {
		return 0, e
	}
	all := big.NewInt(n)
	for _, u := range suffixes() {
		if u.name == m[2] {
			all.Mul(all, big.NewInt(u.bytes))
		}
	}
	if q, is := quantity(all); is {
		return q, api.OK
	}
	return 0, api.ErrUnit
}

// sizeText returns what the chapter's words say of the text of a size.
func sizeText(n int64) string {
	if n < 0 || n > top {
		return ""
	}
	s := strconv.FormatInt(n, 10)
	for _, u := range binary { // the last one that divides it is the greatest
		if n > 0 && n%u.bytes == 0 {
			s = strconv.FormatInt(n/u.bytes, 10) + u.name
		}
	}
	return s
}

// name reports what the chapter's words say of a name, byte by byte.
func name(s string) bool {
	const all = "abcdefghijklmnopqrstuvwxyzABCDEFGHIJKLMNOPQRSTUVWXYZ0123456789_-."
	if len(s) < 1 || len(s) > long || s[0] == '-' || s[0] == '.' {
		return false
	}
	for i := range len(s) {
		if strings.IndexByte(all, s[i]) < 0 {
			return false
		}
	}
	return true
}

// edges are quantities at which a text can go wrong: near powers of 2 and 10, and multiples of units.
func edges() []int64 {
	var l []int64
	add := func(n int64) {
		for d := int64(-2); d <= 2; d++ {
			if n+d >= 0 && n+d <= top {
				l = append(l, n+d)
			}
		}
	}
	for n := int64(1); n <= top; n *= 2 {
		add(n)
		add(n * 3)
		add(top - n)
	}
	for n := int64(1); n <= top; n *= 10 {
		add(n)
		add(n * 7)
	}
	for _, u := range suffixes() {
		for _, k := range []int64{1, 2, 3, 5, 7, 9, 10, 99, 100, 512, 999, 1000, 1001, 1023, 1024, 1025, 1 << 20, top / u.bytes} {
			if k <= top/u.bytes {
				add(k * u.bytes)
			}
		}
	}
	for n := range int64(5000) {
		add(n)
	}
	return l
}

// not are numbers that are no quantities.
func not() []int64 {
	l := []int64{math.MinInt64, math.MinInt64 + 1, -top - 1, -top, -top + 1, -3072, -1024, -1000, -2, -1,
		top + 1, top + 2, top + 1000, top + 1024, top + 1<<20, top + 1<<30, 2 * top, 3 * top, 10 * top, 1 << 62, math.MaxInt64 - 1, math.MaxInt64}
	for n := int64(2 * top); n > 0; n *= 2 {
		l = append(l, n, -n)
	}
	return l
}

// check holds Number and Size of one text against the chapter's words, and P13.4 of it.
func check(t *testing.T, s string) {
	t.Helper()
	wantN, wantE := number(s)
	n, e := unit.Number(s)
	if n != wantN || e != wantE {
		t.Errorf("Number(%q) is %d, %d, not %d, %d", s, n, e, wantN, wantE)
	}
	if e == api.OK && unit.Text(n) != s { // P13.4
		t.Errorf("Text of Number(%q) is %q", s, unit.Text(n))
	}
	wantM, wantF := size(s)
	m, f := unit.Size(s)
	if m != wantM || f != wantF {
		t.Errorf("Size(%q) is %d, %d, not %d, %d", s, m, f, wantM, wantF)
	}
	if e == api.OK && (m != n || f != api.OK) { // P13.4
		t.Errorf("Size(%q) is %d, %d, Number of it %d", s, m, f, n)
	}
}

func TestNumber(t *testing.T) { // P13.1
	for _, c := range []struct {
		s    string
		want int64
		e    api.Errno
	}{
		{"0", 0, api.OK},
		{"1", 1, api.OK},
		{"9", 9, api.OK},
		{"10", 10, api.OK},
		{"3072", 3072, api.OK},
		{"1000000000000", 1000000000000, api.OK},
		{"999999999999", 999999999999, api.OK},
		{"1099511627775", top - 1, api.OK},
		{"1099511627776", top, api.OK},
		{"1099511627777", 0, api.ErrUnit},
		{"1100000000000", 0, api.ErrUnit},
		{"9999999999999", 0, api.ErrUnit},
		{"10000000000000", 0, api.ErrUnit},
		{"00000000000001", 0, api.ErrUnit},
		{"0000000000001", 0, api.ErrUnit},
		{"07", 0, api.ErrUnit},
		{"00", 0, api.ErrUnit},
		{"-0", 0, api.ErrUnit},
		{"+0", 0, api.ErrUnit},
		{"-1", 0, api.ErrUnit},
		{"+1", 0, api.ErrUnit},
		{"", 0, api.ErrUnit},
		{"3KiB", 0, api.ErrUnit},
		{"1KB", 0, api.ErrUnit},
		{"18446744073709551616", 0, api.ErrUnit}, // 2^64: 0 if it wraps round
		{"18446744073709551621", 0, api.ErrUnit},
		{"9223372036854775807", 0, api.ErrUnit},
		{"9223372036854775808", 0, api.ErrUnit},
		{"-9223372036854775808", 0, api.ErrUnit},
	} {
		if n, e := unit.Number(c.s); n != c.want || e != c.e {
			t.Errorf("Number(%q) is %d, %d, not %d, %d", c.s, n, e, c.want, c.e)
		}
	}
}

func TestSize(t *testing.T) { // P13.1
	for _, c := range []struct {
		s    string
		want int64
		e    api.Errno
	}{
		{"3KiB", 3072, api.OK},
		{"2KB", 2000, api.OK},
		{"07", 0, api.ErrUnit},
		{"0", 0, api.OK},
		{"3072", 3072, api.OK},
		{"1024", 1024, api.OK}, // whatever SizeText writes
		{"1000KiB", 1024000, api.OK},
		{"1024KiB", 1048576, api.OK},
		{"0KB", 0, api.OK},
		{"0TiB", 0, api.OK},
		{"00KB", 0, api.ErrUnit},
		{"07KB", 0, api.ErrUnit},
		{"1KB", 1000, api.OK},
		{"1MB", 1000000, api.OK},
		{"1GB", 1000000000, api.OK},
		{"1TB", 1000000000000, api.OK},
		{"1KiB", 1 << 10, api.OK},
		{"1MiB", 1 << 20, api.OK},
		{"1GiB", 1 << 30, api.OK},
		{"1TiB", 1 << 40, api.OK},
		{"1099511627KB", 1099511627000, api.OK},
		{"1099511628KB", 0, api.ErrUnit},
		{"1099511MB", 1099511000000, api.OK},
		{"1099512MB", 0, api.ErrUnit},
		{"1099GB", 1099000000000, api.OK},
		{"1100GB", 0, api.ErrUnit},
		{"2TB", 0, api.ErrUnit},
		{"1073741824KiB", top, api.OK},
		{"1073741823KiB", top - 1024, api.OK},
		{"1073741825KiB", 0, api.ErrUnit},
		{"1048576MiB", top, api.OK},
		{"1048577MiB", 0, api.ErrUnit},
		{"1024GiB", top, api.OK},
		{"1025GiB", 0, api.ErrUnit},
		{"2TiB", 0, api.ErrUnit},
		{"16777216TiB", 0, api.ErrUnit}, // 2^64: 0 if it wraps round
		{"17179869184GiB", 0, api.ErrUnit},
		{"16777217TiB", 0, api.ErrUnit}, // 2^64 + 2^40
		{"8388608TiB", 0, api.ErrUnit},  // 2^63: below 0 if it wraps round
		{"1099511627776TiB", 0, api.ErrUnit},
		{"1099511627776KB", 0, api.ErrUnit},
		{"1099511627777", 0, api.ErrUnit},
		{"1099511627777KB", 0, api.ErrUnit},
		{"0000000000001KB", 0, api.ErrUnit},
		{"10000000000000KB", 0, api.ErrUnit},
		{"18446744073709551616KB", 0, api.ErrUnit},
		{"18446744073709551617KB", 0, api.ErrUnit},
		{"", 0, api.ErrUnit},
		{"KiB", 0, api.ErrUnit},
		{"KB", 0, api.ErrUnit},
		{"-KB", 0, api.ErrUnit},
		{"-1KB", 0, api.ErrUnit},
		{"+1KB", 0, api.ErrUnit},
		{"-0KB", 0, api.ErrUnit},
		{"1KiBKiB", 0, api.ErrUnit},
		{"1KBKiB", 0, api.ErrUnit},
		{"1KiBKB", 0, api.ErrUnit},
		{"1KB1", 0, api.ErrUnit},
		{"1KB1KB", 0, api.ErrUnit},
		{"KB1", 0, api.ErrUnit},
	} {
		if n, e := unit.Size(c.s); n != c.want || e != c.e {
			t.Errorf("Size(%q) is %d, %d, not %d, %d", c.s, n, e, c.want, c.e)
		}
	}
}

// TestWrongUnits has what is almost a unit behind a number.
func TestWrongUnits(t *testing.T) { // P13.1
	l := []string{"B", "K", "M", "G", "T", "iB", "Ki", "Mi", "KI", "k", "kB", "kb", "Kb", "kiB", "Kib", "KIB", "KiBs", "KBs", "KBB", "KKB", "KiiB", "iKB", "BK", "mB", "mb", "gB", "tB", "tib",
		"PB", "PiB", "EB", "EiB", "ZB", "YiB", "KMB", "byte", "bytes", "%", "x", ".", "e3", "E3", " ", " KB", "KB ", "\tKB", "KB\n", "K B", "\x00", "\x00KB", "KB\x00", "\xff", "KB\xff", "_", "_KB", ".KB", ".0KB", ".5KB", ",000", "'000",
		"\u212aB", "\u212aiB", "K\u0130B", "\uff2b\uff22", "\u041a\u0412"}
	for _, s := range l {
		for _, n := range []string{"0", "1", "2", "10", "1000", "1024"} {
			if m, e := unit.Size(n + s); m != 0 || e != api.ErrUnit {
				t.Errorf("Size(%q) is %d, %d", n+s, m, e)
			}
			if m, e := unit.Number(n + s); m != 0 || e != api.ErrUnit {
				t.Errorf("Number(%q) is %d, %d", n+s, m, e)
			}
		}
	}
}

// TestWrongDigits has texts that other readers accept as numbers, alone and with a unit.
func TestWrongDigits(t *testing.T) { // P13.1
	for _, s := range []string{"", " ", "+", "-", "+5", "-5", "--5", " 5", "5 ", "5\n", "\n5", "\t5", "5\x00", "\x005", "1_000", "_1", "1_", "0x10", "0X1F", "0b1", "0o7", "0_7", "x1", "1e3", "1E3", "1.", ".1", "1.0", "1,000",
		"a", "ff", "inf", "NaN", "\u0663", "\uff15", "1\uff15", "\u00b2", "5\u200b", "\ufeff5", "\xff", "5\xff", "/", ":", "1:", "1/"} {
		for _, u := range append(suffixes(), suffix{}) {
			if n, e := unit.Size(s + u.name); n != 0 || e != api.ErrUnit {
				t.Errorf("Size(%q) is %d, %d", s+u.name, n, e)
			}
		}
		if n, e := unit.Number(s); n != 0 || e != api.ErrUnit {
			t.Errorf("Number(%q) is %d, %d", s, n, e)
		}
	}
}

// TestAllShort holds all texts of up to 5 of these bytes against the chapter's words.
func TestAllShort(t *testing.T) { // P13.1, P13.4
	const all = "0179KMTiB-+ "
	l := []string{""}
	for range 5 {
		var longer []string
		for _, s := range l {
			check(t, s)
			for i := range len(all) {
				longer = append(longer, s+all[i:i+1])
			}
		}
		l = longer
	}
	for _, s := range l {
		check(t, s)
	}
}

// TestAnyByte puts each byte at each place of texts that are valid, and in place of each of theirs.
func TestAnyByte(t *testing.T) { // P13.1
	for _, s := range []string{"0", "5", "3072", "1099511627776", "109951162777", "3KiB", "2KB", "1024GiB", "1TB", "12MiB"} {
		for b := range 256 {
			one := string([]byte{byte(b)})
			for i := range len(s) + 1 {
				check(t, s[:i]+one+s[i:])
				if i < len(s) {
					check(t, s[:i]+one+s[i+1:])
				}
			}
		}
	}
}

// TestEdges holds sizes with all units, at the edges, against the chapter's words.
func TestEdges(t *testing.T) { // P13.1, P13.4
	for _, n := range edges() {
		s := strconv.FormatInt(n, 10)
		check(t, s)
		for _, u := range suffixes() {
			check(t, s+u.name)
		}
	}
	for _, n := range not() {
		s := strconv.FormatInt(n, 10)
		check(t, s)
		for _, u := range suffixes() {
			check(t, s+u.name)
		}
	}
}

// TestWrapped has products, and numbers, that are quantities only in 64 bits.
func TestWrapped(t *testing.T) { // P13.1
	whole := new(big.Int).Lsh(big.NewInt(1), 64)
	for k := range int64(40) {
		for _, d := range []int64{0, 1, 7, 1000, 1024, top} {
			n := new(big.Int).Mul(whole, big.NewInt(k+1))
			n.Add(n, big.NewInt(d))
			check(t, n.String())
			for _, u := range suffixes() {
				check(t, n.String()+u.name)
				q, _ := new(big.Int).QuoRem(n, big.NewInt(u.bytes), new(big.Int))
				check(t, q.String()+u.name)
				check(t, q.Add(q, big.NewInt(1)).String()+u.name)
			}
		}
	}
}

// TestHuge has texts that are much longer than a valid one.
func TestHuge(t *testing.T) { // P1, P13.1, P13.3
	for _, s := range []string{"0", "1", "9", "K", "KB", "KiB", "-", " ", "a", "\x00", "\xff"} {
		for _, n := range []int{14, 15, 20, 33, 100, 1000, 1 << 22} {
			all := strings.Repeat(s, n)
			for _, x := range []string{all, all + "KB", all + "KiB", "1" + all, all + "1"} {
				if m, e := unit.Number(x); m != 0 || e != api.ErrUnit {
					t.Errorf("Number of %d times %q is %d, %d", n, s, m, e)
				}
				if m, e := unit.Size(x); m != 0 || e != api.ErrUnit {
					t.Errorf("Size of %d times %q is %d, %d", n, s, m, e)
				}
				if n > long && unit.Name(x) {
					t.Errorf("Name of %d times %q", n, s)
				}
			}
		}
	}
}

func TestText(t *testing.T) { // P13.2
	for _, c := range []struct {
		n          int64
		text, size string
	}{
		{0, "0", "0"},
		{1, "1", "1"},
		{10, "10", "10"},
		{1000, "1000", "1000"},
		{1023, "1023", "1023"},
		{1024, "1024", "1KiB"},
		{1025, "1025", "1025"},
		{1536, "1536", "1536"},
		{2048, "2048", "2KiB"},
		{3000, "3000", "3000"},
		{3072, "3072", "3KiB"},
		{1000000, "1000000", "1000000"},
		{1024000, "1024000", "1000KiB"},
		{1047552, "1047552", "1023KiB"},
		{1048576, "1048576", "1MiB"},
		{1048577, "1048577", "1048577"},
		{1049600, "1049600", "1025KiB"},
		{1572864, "1572864", "1536KiB"},
		{2097152, "2097152", "2MiB"},
		{1072693248, "1072693248", "1023MiB"},
		{1073741824, "1073741824", "1GiB"},
		{1073742848, "1073742848", "1048577KiB"},
		{1610612736, "1610612736", "1536MiB"},
		{5368709120, "5368709120", "5GiB"},
		{1000000000000, "1000000000000", "976562500KiB"},
		{1098437885952, "1098437885952", "1023GiB"},
		{top - 1024, "1099511626752", "1073741823KiB"},
		{top - 1, "1099511627775", "1099511627775"},
		{top, "1099511627776", "1TiB"},
		{top + 1, "", ""},
		{top + 1024, "", ""},
		{2 * top, "", ""},
		{1 << 62, "", ""},
		{math.MaxInt64, "", ""},
		{-1, "", ""},
		{-1024, "", ""},
		{-top, "", ""},
		{math.MinInt64, "", ""},
	} {
		if unit.Text(c.n) != c.text || unit.SizeText(c.n) != c.size {
			t.Errorf("of %d Text is %q, not %q, SizeText %q, not %q", c.n, unit.Text(c.n), c.text, unit.SizeText(c.n), c.size)
		}
	}
	for _, n := range not() {
		if unit.Text(n) != "" || unit.SizeText(n) != "" {
			t.Errorf("of %d Text is %q, SizeText %q", n, unit.Text(n), unit.SizeText(n))
		}
	}
}

// TestBack reads what was written.
func TestBack(t *testing.T) { // P13.2, P13.4
	for _, n := range edges() {
		text, s := unit.Text(n), unit.SizeText(n)
		if text != strconv.FormatInt(n, 10) || s != sizeText(n) {
			t.Errorf("of %d Text is %q, SizeText %q, not %q", n, text, s, sizeText(n))
		}
		if m, e := unit.Number(text); m != n || e != api.OK {
			t.Errorf("Number(Text(%d)) is %d, %d", n, m, e)
		}
		if m, e := unit.Size(s); m != n || e != api.OK {
			t.Errorf("Size(SizeText(%d)) is %d, %d", n, m, e)
		}
		if m, e := unit.Size(text); m != n || e != api.OK {
			t.Errorf("Size(Text(%d)) is %d, %d", n, m, e)
		}
	}
}

func TestName(t *testing.T) { // P13.3
	for s, want := range map[string]bool{
		"a":                             true,
		"Z":                             true,
		"0":                             true,
		"_":                             true,
		"a.b-c":                         true,
		"9_x":                           true,
		"a-":                            true,
		"a.":                            true,
		"a..b--c":                       true,
		"_-.":                           true,
		"07":                            true,
		"":                              false,
		"-":                             false,
		".":                             false,
		"-a":                            false,
		".a":                            false,
		"..":                            false,
		"a b":                           false,
		" a":                            false,
		"a ":                            false,
		"a\n":                           false,
		"a\x00":                         false,
		"a/b":                           false,
		"a=b":                           false,
		"a,b":                           false,
		"a:b":                           false,
		"a@b":                           false,
		"~":                             false,
		"\xff":                          false,
		"a\xff":                         false,
		"\u00e9":                        false, // letters, but not of these
		"a\u00e9":                       false,
		"\u212a":                        false, // folded, it is k
		"\uff41":                        false,
		"a\u0663":                       false,
		"\u0161":                        false, // its last 8 bits are those of a
		"a\u0261":                       false,
		"\U00010061":                    false,
		"\ufffd":                        false,
		"a\ufffd":                       false,
		"e\u0301":                       false,
		strings.Repeat("a", long-1):     true,
		strings.Repeat("a", long):       true,
		strings.Repeat("a", long+1):     false,
		strings.Repeat("\u00e9", long):  false,
		"-" + strings.Repeat("a", 31):   false,
		"a" + strings.Repeat("-", 31):   true,
		strings.Repeat("a", 31) + "\n":  false,
		strings.Repeat("a", 31) + " ":   false,
		strings.Repeat("a", 256):        false, // its length's last 8 bits are 0
		strings.Repeat("a", 256+long):   false,
		strings.Repeat("\u00e9", 16):    false, // 32 bytes
		strings.Repeat("\u00e9", 17):    false,
		strings.Repeat("a", long) + "-": false,
	} {
		if unit.Name(s) != want {
			t.Errorf("Name(%q) is %v", s, !want)
		}
	}
}

// TestNameBytes has each byte alone, each two bytes, and each byte at each place of a name of any length.
func TestNameBytes(t *testing.T) { // P13.3
	hold := func(s string) {
		if unit.Name(s) != name(s) {
			t.Errorf("Name(%q) is %v", s, unit.Name(s))
		}
	}
	for b := range 256 {
		hold(string([]byte{byte(b)}))
		for c := range 256 {
			hold(string([]byte{byte(b), byte(c)}))
		}
		for n := range long + 2 {
			for i := range n {
				s := []byte(strings.Repeat("x", n))
				s[i] = byte(b)
				hold(string(s))
			}
		}
	}
	for r := range rune(0x20000) {
		hold(string(r))
		hold("a" + string(r))
	}
}

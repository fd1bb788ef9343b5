package direct_test

import (
	"math"
	"math/big"
	"regexp"
	"strconv"
	"strings"
	"testing"

	"forebay/api"
	"forebay/direct"
)

const (
	top     = 1 << 40 // written out, so that a wrong limit does not agree with itself
	line    = 500     // bytes of a line
	long    = 32      // bytes of a name
	wrong   = api.ErrDirect
	toolong = api.ErrLong
)

// word is a row of the chapter's table: a word, its kind's number, the fields that must be there, and whether it can have access.
type word struct {
	name   string
	kind   uint8
	fields []string
	access bool
}

func words() []word {
	return []word{
		{"jobdw", 1, []string{"capacity", "pool"}, false},
		{"stage_in", 2, []string{"size"}, false},
		{"stage_out", 3, []string{"size"}, false},
		{"create_persistent", 4, []string{"name", "capacity", "pool"}, true},
		{"destroy_persistent", 5, []string{"name"}, false},
		{"use_persistent", 6, []string{"name"}, false},
	}
}

// has reports whether a word must have a field.
func (w word) has(key string) bool {
	for _, f := range w.fields {
		if f == key {
			return true
		}
	}
	return false
}

var (
	nameForm = regexp.MustCompile(`\A[a-zA-Z0-9_][a-zA-Z0-9_.-]{0,31}\z`)
	sizeForm = regexp.MustCompile(`\A([1-9][0-9]{0,12})(KB|MB|GB|TB|KiB|MiB|GiB|TiB)?\z`)
	units    = map[string]int64{"": 1, "KB": 1e3, "MB": 1e6, "GB": 1e9, "TB": 1e12, "KiB": 1 << 10, "MiB": 1 << 20, "GiB": 1 << 30, "TiB": 1 << 40}
)

// size returns the number above 0 that a size's text denotes, or 0.
func size(s string) int64 {
	m := sizeForm.FindStringSubmatch(s)
	if m == nil {
		return 0
	}
	n, _ := new(big.Int).SetString(m[1], 10)
	if n.Mul(n, big.NewInt(units[m[2]])).Cmp(big.NewInt(top)) > 0 {
		return 0
	}
	return n.Int64()
}

// sizeText returns the text of a size above 0.
func sizeText(n int64) string {
	for _, u := range []string{"TiB", "GiB", "MiB", "KiB"} {
		if n%units[u] == 0 {
			return strconv.FormatInt(n/units[u], 10) + u
		}
	}
	return strconv.FormatInt(n, 10)
}

// parse returns what the chapter's words say of a line: it takes a field after the other from the line's end.
func parse(s string) (api.Direct, api.Errno) {
	if len(s) > line {
		return api.Direct{}, toolong
	}
	for _, w := range words() {
		rest, is := strings.CutPrefix(s, "#BB "+w.name)
		if !is {
			continue
		}
		d := api.Direct{Kind: w.kind}
		found := map[string]bool{}
		for rest != "" {
			i := strings.LastIndexByte(rest, ' ')
			if i < 0 {
				return api.Direct{}, wrong
			}
			f := rest[i+1:]
			rest = rest[:i]
			key := f[:strings.IndexByte(f+"=", '=')]
			if found[key] || !w.has(key) && !(w.access && key == "access") || !store(&d, f) {
				return api.Direct{}, wrong
			}
			found[key] = true
		}
		for _, key := range w.fields {
			if !found[key] {
				return api.Direct{}, wrong
			}
		}
		return d, api.OK
	}
	return api.Direct{}, wrong
}

// store stores a field, and reports whether it is one.
func store(d *api.Direct, f string) bool {
	switch {
	case f == "access=public":
		d.Open = true
		return true
	case f == "access=private":
		return true
	case strings.HasPrefix(f, "name="):
		d.Name = f[5:]
		return nameForm.MatchString(d.Name)
	case strings.HasPrefix(f, "pool="):
		d.Pool = f[5:]
		return nameForm.MatchString(d.Pool)
	case strings.HasPrefix(f, "size="):
		d.Size = size(f[5:])
		return d.Size > 0
	case strings.HasPrefix(f, "capacity="):
		d.Size = size(f[9:])
		return d.Size > 0
	}
	return false
}

// text returns what the chapter's words say of a directive: its text, or nothing if it is not valid.
func text(d api.Direct) (string, api.Errno) {
	for _, w := range words() {
		if w.kind != d.Kind {
			continue
		}
		size := w.has("size") || w.has("capacity")
		if nameForm.MatchString(d.Name) != w.has("name") || d.Name != "" && !w.has("name") ||
			nameForm.MatchString(d.Pool) != w.has("pool") || d.Pool != "" && !w.has("pool") ||
			size && (d.Size < 1 || d.Size > top) || !size && d.Size != 0 || d.Open && !w.access {
			return "", wrong
		}
		s := "#BB " + w.name
		for _, key := range w.fields {
			switch key {
			case "name":
				s += " name=" + d.Name
			case "pool":
				s += " pool=" + d.Pool
			default:
				s += " " + key + "=" + sizeText(d.Size)
			}
		}
		if d.Open {
			s += " access=public"
		}
		return s, api.OK
	}
	return "", wrong
}

// hold holds Parse and Is of one line against the chapter's words, and P14.3 of it.
func hold(t *testing.T, s string) {
	t.Helper()
	want, wantE := parse(s)
	d, e := direct.Parse(s)
	if d != want || e != wantE {
		t.Errorf("Parse(%.600q) is %v, %d, not %v, %d", s, d, e, want, wantE)
	}
	if is := s == "#BB" || len(s) > 3 && s[:4] == "#BB "; direct.Is(s) != is {
		t.Errorf("Is(%.600q) is %v", s, !is)
	}
	if wantE == api.OK {
		holdText(t, want)
	}
}

// holdText holds Check and Text of one directive against the chapter's words, and P14.3 of it.
func holdText(t *testing.T, d api.Direct) {
	t.Helper()
	want, wantE := text(d)
	if e := direct.Check(d); e != wantE {
		t.Errorf("Check(%.600q) is %d, not %d", d.Name, e, wantE)
	}
	s, e := direct.Text(d)
	if s != want || e != wantE {
		t.Errorf("Text of kind %d, %.100q, %.100q, %d, %v is %q, %d, not %q, %d", d.Kind, d.Name, d.Pool, d.Size, d.Open, s, e, want, wantE)
	}
	if wantE != api.OK {
		return
	}
	if again, e := direct.Parse(s); again != d || e != api.OK || !direct.Is(s) { // P14.3
		t.Errorf("Parse of %q, which is Text of %v, is %v, %d", s, d, again, e)
	}
}

// valid are lines that are directives', at least one of each kind.
func valid() []string {
	return []string{
		"#BB jobdw capacity=2KiB pool=p",
		"#BB jobdw pool=p capacity=1",
		"#BB jobdw pool=size capacity=1TiB",
		"#BB stage_in size=3000",
		"#BB stage_out size=1MB",
		"#BB create_persistent name=a capacity=1 pool=p access=public",
		"#BB create_persistent access=private pool=p capacity=10KB name=b",
		"#BB create_persistent pool=name name=pool capacity=7",
		"#BB destroy_persistent name=a.b-c",
		"#BB use_persistent name=" + strings.Repeat("x", long),
	}
}

func TestIs(t *testing.T) { // P14.1
	for s, want := range map[string]bool{
		"#BB":                              true,
		"#BB ":                             true,
		"#BB  ":                            true,
		"#BB x":                            true,
		"#BB stage_in size=1":              true,
		"#BB stage_in size=0":              true, // whether it is valid is not asked
		"#BB \n":                           true,
		"#BB \x00":                         true,
		"#BB #BB":                          true,
		"#BB " + strings.Repeat("x", line): true,
		"#BB " + strings.Repeat("x", 1e6):  true,
		"":                                 false,
		"#":                                false,
		"#B":                               false,
		"#B ":                              false,
		"BB ":                              false,
		"BB stage_in size=1":               false,
		"#BBB":                             false,
		"#BB\t":                            false,
		"#BB\n":                            false,
		"#BB\x00":                          false,
		"#BBx":                             false,
		"#BB=":                             false,
		"#BB\u00a0":                        false,
		"#BBstage_in size=1":               false,
		"##BB ":                            false,
		" #BB":                             false,
		" #BB ":                            false,
		"x#BB ":                            false,
		"\n#BB ":                           false,
		"#bb ":                             false,
		"#Bb ":                             false,
		"#bb":                              false,
		"# BB ":                            false,
		"#B B ":                            false,
		"#\u0392\u0392 ":                   false,
		"job user=a":                       false,
	} {
		if direct.Is(s) != want {
			t.Errorf("Is(%.50q) is %v", s, !want)
		}
	}
	for b := range 256 { // each byte in place of each of the first four, and behind #BB
		one := string([]byte{byte(b)})
		for _, s := range []string{one + "BB ", "#" + one + "B ", "#B" + one + " ", "#BB" + one, "#BB" + one + "x", one + "BB", "#" + one + "B", "#B" + one, "#BB" + one + " "} {
			if direct.Is(s) != (s == "#BB" || strings.HasPrefix(s, "#BB ")) {
				t.Errorf("Is(%q) is %v", s, direct.Is(s))
			}
		}
	}
}

func TestParse(t *testing.T) { // P14.1
	x := strings.Repeat("x", long)
	for _, c := range []struct {
		s string
		d api.Direct
	}{
		{"#BB jobdw pool=p capacity=2KiB", api.Direct{Kind: api.DiBuffer, Pool: "p", Size: 2048}},
		{"#BB jobdw capacity=2KiB pool=p", api.Direct{Kind: api.DiBuffer, Pool: "p", Size: 2048}},
		{"#BB jobdw capacity=1 pool=" + x, api.Direct{Kind: api.DiBuffer, Pool: x, Size: 1}},
		{"#BB jobdw capacity=1TiB pool=1TiB", api.Direct{Kind: api.DiBuffer, Pool: "1TiB", Size: top}},
		{"#BB stage_in size=1", api.Direct{Kind: api.DiIn, Size: 1}},
		{"#BB stage_in size=1KB", api.Direct{Kind: api.DiIn, Size: 1000}},
		{"#BB stage_in size=1024", api.Direct{Kind: api.DiIn, Size: 1024}}, // whatever its text is
		{"#BB stage_in size=1099511627776", api.Direct{Kind: api.DiIn, Size: top}},
		{"#BB stage_out size=1", api.Direct{Kind: api.DiOut, Size: 1}},
		{"#BB stage_out size=1024GiB", api.Direct{Kind: api.DiOut, Size: top}},
		{"#BB create_persistent name=a capacity=1 pool=p", api.Direct{Kind: api.DiMake, Name: "a", Pool: "p", Size: 1}},
		{"#BB create_persistent name=a capacity=1 pool=p access=public", api.Direct{Kind: api.DiMake, Name: "a", Pool: "p", Size: 1, Open: true}},
		{"#BB create_persistent name=a capacity=1 pool=p access=private", api.Direct{Kind: api.DiMake, Name: "a", Pool: "p", Size: 1}},
		{"#BB create_persistent access=public capacity=1 pool=p name=a", api.Direct{Kind: api.DiMake, Name: "a", Pool: "p", Size: 1, Open: true}},
		{"#BB create_persistent name=p capacity=1 pool=p", api.Direct{Kind: api.DiMake, Name: "p", Pool: "p", Size: 1}},
		{"#BB create_persistent name=access capacity=1 pool=public", api.Direct{Kind: api.DiMake, Name: "access", Pool: "public", Size: 1}},
		{"#BB destroy_persistent name=a", api.Direct{Kind: api.DiDrop, Name: "a"}},
		{"#BB destroy_persistent name=" + x, api.Direct{Kind: api.DiDrop, Name: x}},
		{"#BB use_persistent name=a", api.Direct{Kind: api.DiUse, Name: "a"}},
		{"#BB use_persistent name=_-.", api.Direct{Kind: api.DiUse, Name: "_-."}},
	} {
		if d, e := direct.Parse(c.s); d != c.d || e != api.OK {
			t.Errorf("Parse(%q) is %v, %d, not %v", c.s, d, e, c.d)
		}
		hold(t, c.s)
	}
}

// TestWrong has lines that are almost a directive's.
func TestWrong(t *testing.T) { // P14.1, P14.3
	x := strings.Repeat("x", long+1)
	l := []string{
		"", "#BB", "#BB ", "#BB  ", " ", "=", "#BB =", "#BB x", "#BB job user=a nodes=1 wall=1", "job user=a nodes=1 wall=1",
		"#BB size=1", "#BB name=a", "stage_in size=1", "#BB#BB stage_in size=1", "#BB #BB stage_in size=1", "#BBstage_in size=1", "#bb stage_in size=1", "#BB\tstage_in size=1",
		" #BB stage_in size=1", "#BB  stage_in size=1", "#BB stage_in  size=1", "#BB stage_in size=1 ", "#BB stage_in size=1  ", "#BB stage_in ", "#BB stage_in\tsize=1", "#BB stage_in size=1\n", "#BB stage_in size=1\r", "#BB stage_in size=1\n#BB stage_in size=1", "#BB stage_in size=1\x00", "\n#BB stage_in size=1", "\ufeff#BB stage_in size=1",
		"#BB stage size=1", "#BB stage_ size=1", "#BB stage_inn size=1", "#BB Stage_in size=1", "#BB STAGE_IN size=1", "#BB stagein size=1", "#BB stage-in size=1", "#BB stage_in= size=1", "#BB stage_in,size=1", "#BB jobd capacity=1 pool=p", "#BB jobdw2 capacity=1 pool=p", "#BB create name=a capacity=1 pool=p", "#BB persistent name=a", "#BB drop_persistent name=a", "#BB persistentdw name=a", "#BB make name=a capacity=1 pool=p",
		"#BB jobdw", "#BB stage_in", "#BB stage_out", "#BB create_persistent", "#BB destroy_persistent", "#BB use_persistent",
		"#BB jobdw capacity=1", "#BB jobdw pool=p", "#BB create_persistent name=a capacity=1", "#BB create_persistent name=a pool=p", "#BB create_persistent capacity=1 pool=p", "#BB create_persistent name=a capacity=1 access=public", "#BB create_persistent access=public", "#BB create_persistent access=private",
		"#BB jobdw capacity=1 pool=p pool=p", "#BB jobdw capacity=1 capacity=1 pool=p", "#BB jobdw capacity=1 capacity=1", "#BB jobdw pool=p pool=p", "#BB jobdw capacity=1 pool=p pool=q", "#BB stage_in size=1 size=1", "#BB stage_in size=1 size=2", "#BB use_persistent name=a name=a", "#BB create_persistent name=a capacity=1 pool=p access=public access=public", "#BB create_persistent name=a capacity=1 pool=p access=public access=private", "#BB create_persistent name=a capacity=1 pool=p access=private access=public", "#BB create_persistent name=a capacity=1 pool=p access=private access=private",
		"#BB jobdw capacity=1 pool=p name=a", "#BB jobdw size=1 pool=p", "#BB jobdw capacity=1 size=1 pool=p", "#BB jobdw capacity=1 pool=p access=private", "#BB jobdw capacity=1 pool=p access=public", "#BB stage_in capacity=1", "#BB stage_in size=1 capacity=1", "#BB stage_in size=1 pool=p", "#BB stage_in size=1 name=a", "#BB stage_out size=1 pool=p", "#BB stage_out capacity=1", "#BB stage_out size=1 access=private", "#BB create_persistent name=a size=1 pool=p", "#BB create_persistent name=a capacity=1 pool=p size=1", "#BB destroy_persistent name=a pool=p", "#BB destroy_persistent pool=p", "#BB destroy_persistent name=a access=public", "#BB use_persistent name=a size=1", "#BB use_persistent name=a capacity=1", "#BB use_persistent name=a access=private", "#BB use_persistent size=1",
		"#BB stage_in size", "#BB stage_in 1", "#BB stage_in =1", "#BB stage_in size=", "#BB stage_in size==1", "#BB stage_in size=1=", "#BB stage_in size =1", "#BB stage_in size= 1", "#BB stage_in size:1", "#BB stage_in Size=1", "#BB stage_in SIZE=1", "#BB stage_in sizes=1", "#BB stage_in siz=1", "#BB stage_in size=1 =", "#BB stage_in size=1 x", "#BB stage_in size=1 x=1", "#BB stage_in size=1 =1", "#BB stage_in size=1,size=1", "#BB stage_in \"size=1\"", "#BB stage_in size=\"1\"",
		"#BB stage_in size=0", "#BB stage_in size=0KB", "#BB stage_in size=0TiB", "#BB stage_in size=-1", "#BB stage_in size=+1", "#BB stage_in size=01", "#BB stage_in size=1K", "#BB stage_in size=1kb", "#BB stage_in size=1B", "#BB stage_in size=KB", "#BB stage_in size=1.5KB", "#BB stage_in size=1 KB", "#BB stage_in size=a", "#BB stage_in size=0x1", "#BB stage_in size=1_000", "#BB stage_in size=1e3",
		"#BB stage_in size=1099511627777", "#BB stage_in size=2TiB", "#BB stage_in size=1025GiB", "#BB stage_in size=2TB", "#BB stage_in size=16777216TiB", "#BB stage_in size=16777217TiB", "#BB stage_in size=18446744073709551617", "#BB stage_in size=4294967297TiB",
		"#BB stage_out size=0", "#BB jobdw capacity=0 pool=p", "#BB jobdw capacity=2TiB pool=p", "#BB create_persistent name=a capacity=0 pool=p", "#BB create_persistent name=a capacity= pool=p",
		"#BB use_persistent name=", "#BB use_persistent name", "#BB use_persistent name=a=b", "#BB use_persistent name=-a", "#BB use_persistent name=.a", "#BB use_persistent name=a/b", "#BB use_persistent name=a,b", "#BB use_persistent name=\u00e9", "#BB use_persistent name=a\x00", "#BB use_persistent name=" + x, "#BB destroy_persistent name=" + x, "#BB jobdw capacity=1 pool=" + x, "#BB jobdw capacity=1 pool=", "#BB jobdw capacity=1 pool", "#BB create_persistent name=" + x + " capacity=1 pool=p", "#BB create_persistent name=a capacity=1 pool=" + x, "#BB create_persistent name=a capacity=1 pool=-", "#BB create_persistent name= capacity=1 pool=p",
		"#BB create_persistent name=a capacity=1 pool=p access=all", "#BB create_persistent name=a capacity=1 pool=p access=", "#BB create_persistent name=a capacity=1 pool=p access", "#BB create_persistent name=a capacity=1 pool=p access=Public", "#BB create_persistent name=a capacity=1 pool=p access=PUBLIC", "#BB create_persistent name=a capacity=1 pool=p access=publi", "#BB create_persistent name=a capacity=1 pool=p access=publics", "#BB create_persistent name=a capacity=1 pool=p access=privat", "#BB create_persistent name=a capacity=1 pool=p access=striped", "#BB create_persistent name=a capacity=1 pool=p access=true", "#BB create_persistent name=a capacity=1 pool=p access=1", "#BB create_persistent name=a capacity=1 pool=p public", "#BB create_persistent name=a capacity=1 pool=p access=public=",
	}
	for _, s := range l {
		if d, e := direct.Parse(s); d != (api.Direct{}) || e != wrong {
			t.Errorf("Parse(%q) is %v, %d", s, d, e)
		}
		hold(t, s)
	}
}

// TestLong has lines at the limit, and huge ones.
func TestLong(t *testing.T) { // P14.1
	for _, c := range []struct{ begin, end string }{
		{"", "x"}, {"#BB ", "x"}, {"#BB ", " "}, {"#BB", " "}, {"#BB stage_in size=1", " "}, {"#BB stage_in size=", "0"}, {"#BB stage_in size=1", "0"},
		{"#BB use_persistent name=", "a"}, {"#BB stage_in size=1", " size=1"}, {"#BB create_persistent", " access=public"}, {"#BB stage_in", " x=1"}, {"", "#BB stage_in size=1 "}, {"", "\x00"}, {"", "\xff"}, {"", "="}, {"#BB jobdw", " ="},
	} {
		all := c.begin + strings.Repeat(c.end, 2*line)
		for n := line - 40; n < line+40; n++ {
			want := wrong
			if n > line {
				want = toolong
			}
			if d, e := direct.Parse(all[:n]); d != (api.Direct{}) || e != want {
				t.Errorf("Parse of %d bytes of %.30q is %v, %d, not %d", n, all, d, e, want)
			}
		}
		for _, n := range []int{1000, 10000, 1 << 16, 1 << 22} {
			huge := c.begin + strings.Repeat(c.end, n)
			if d, e := direct.Parse(huge); d != (api.Direct{}) || e != toolong {
				t.Errorf("Parse of %d bytes of %.30q is %v, %d", len(huge), huge, d, e)
			}
		}
	}
	for _, s := range valid() { // what would be valid without its end, or its beginning
		pad := strings.Repeat(" ", line)
		for _, x := range []string{s + pad, pad + s, s + "\n" + pad, s + "\x00" + pad} {
			if d, e := direct.Parse(x); d != (api.Direct{}) || e != toolong {
				t.Errorf("Parse(%q) is %v, %d", x, d, e)
			}
		}
		if d, e := direct.Parse(s + pad[len(s):]); d != (api.Direct{}) || e != wrong {
			t.Errorf("Parse of %q and spaces is %v, %d", s, d, e)
		}
	}
}

// TestFields has each word with all rows of up to four fields, of which some are not valid, and of up to five of some of these.
func TestFields(t *testing.T) { // P14.1, P14.3
	fields := []string{"name=a", "name=-", "pool=p", "pool=", "capacity=5KB", "capacity=0", "size=7", "size=0", "access=public", "access=private", "access=", ""}
	some := []string{"name=a", "pool=p", "capacity=5KB", "size=7", "access=public", "x=1"}
	good := 0
	for _, w := range words() {
		var put func(s string, depth int, of []string)
		put = func(s string, depth int, of []string) {
			hold(t, s)
			if _, e := parse(s); e == api.OK {
				good++
			}
			if depth > 0 {
				for _, f := range of {
					put(s+" "+f, depth-1, of)
				}
			}
		}
		put("#BB "+w.name, 4, fields)
		put("#BB "+w.name, 5, some)
	}
	// Of each list of fields: jobdw in 2 orders, four words in one, create_persistent in 6 without access, in 24 with each, of which the second list has one.
	if want := 2 + 4 + 6 + 2*24 + 2 + 4 + 6 + 24; good != want {
		t.Errorf("%d lines are valid, not %d", good, want)
	}
}

// TestAnyByte puts each byte at each place of lines that are valid, in place of each of theirs, and leaves out each piece of them.
func TestAnyByte(t *testing.T) { // P14.1, P14.3
	for _, s := range valid() {
		hold(t, s)
		if _, e := direct.Parse(s); e != api.OK {
			t.Errorf("Parse(%q) is %d", s, e)
		}
		for b := range 256 {
			one := string([]byte{byte(b)})
			for i := range len(s) + 1 {
				hold(t, s[:i]+one+s[i:])
				if i < len(s) {
					hold(t, s[:i]+one+s[i+1:])
				}
			}
		}
		for i := range len(s) + 1 {
			for j := i; j <= len(s); j++ {
				hold(t, s[:i]+s[j:])
				hold(t, s[:j]+s[i:]) // or has it twice
			}
		}
	}
}

// TestSizes has each kind that has a size with texts of sizes, at the edges.
func TestSizes(t *testing.T) { // P14.1, P14.2, P14.3
	for _, s := range []string{"#BB stage_in size=", "#BB stage_out size=", "#BB jobdw pool=p capacity=", "#BB create_persistent name=a pool=p capacity="} {
		for u, n := range units {
			for _, k := range []int64{0, 1, 2, 3, 1000, 1023, 1024, 1025, top/n - 1, top / n, top/n + 1, top - 1, top, top + 1, 1 << 62 / n, math.MaxInt64} {
				hold(t, s+strconv.FormatInt(k, 10)+u)
				hold(t, s+"0"+strconv.FormatInt(k, 10)+u)
			}
		}
	}
}

func TestCheck(t *testing.T) { // P14.2
	x := strings.Repeat("x", long)
	for _, c := range []struct {
		d api.Direct
		s string
	}{
		{api.Direct{Kind: api.DiBuffer, Pool: "p", Size: 2048}, "#BB jobdw capacity=2KiB pool=p"},
		{api.Direct{Kind: api.DiBuffer, Pool: x, Size: top}, "#BB jobdw capacity=1TiB pool=" + x},
		{api.Direct{Kind: api.DiIn, Size: 3000}, "#BB stage_in size=3000"},
		{api.Direct{Kind: api.DiIn, Size: 1}, "#BB stage_in size=1"},
		{api.Direct{Kind: api.DiOut, Size: 1000000}, "#BB stage_out size=1000000"},
		{api.Direct{Kind: api.DiOut, Size: top}, "#BB stage_out size=1TiB"},
		{api.Direct{Kind: api.DiOut, Size: top - 1}, "#BB stage_out size=1099511627775"},
		{api.Direct{Kind: api.DiMake, Name: "a", Pool: "p", Size: 1}, "#BB create_persistent name=a capacity=1 pool=p"},
		{api.Direct{Kind: api.DiMake, Name: "a", Pool: "p", Size: 1, Open: true}, "#BB create_persistent name=a capacity=1 pool=p access=public"},
		{api.Direct{Kind: api.DiMake, Name: x, Pool: x, Size: top - 1024, Open: true}, "#BB create_persistent name=" + x + " capacity=1073741823KiB pool=" + x + " access=public"},
		{api.Direct{Kind: api.DiDrop, Name: "a"}, "#BB destroy_persistent name=a"},
		{api.Direct{Kind: api.DiUse, Name: "a"}, "#BB use_persistent name=a"},
		{api.Direct{}, ""},
		{api.Direct{Name: "a", Pool: "p", Size: 1}, ""},
		{api.Direct{Kind: 7}, ""},
		{api.Direct{Kind: 7, Name: "a"}, ""},
		{api.Direct{Kind: 255}, ""},
		{api.Direct{Kind: api.DiBuffer}, ""},
		{api.Direct{Kind: api.DiBuffer, Pool: "p"}, ""},
		{api.Direct{Kind: api.DiBuffer, Size: 1}, ""},
		{api.Direct{Kind: api.DiBuffer, Pool: "p", Size: -1}, ""},
		{api.Direct{Kind: api.DiBuffer, Pool: "p", Size: top + 1}, ""},
		{api.Direct{Kind: api.DiBuffer, Pool: "p", Size: 1, Name: "a"}, ""},
		{api.Direct{Kind: api.DiBuffer, Pool: "p", Size: 1, Open: true}, ""},
		{api.Direct{Kind: api.DiIn}, ""},
		{api.Direct{Kind: api.DiIn, Size: -1}, ""},
		{api.Direct{Kind: api.DiIn, Size: top + 1}, ""},
		{api.Direct{Kind: api.DiIn, Size: 1, Name: "a"}, ""},
		{api.Direct{Kind: api.DiIn, Size: 1, Pool: "p"}, ""},
		{api.Direct{Kind: api.DiOut, Size: 1, Open: true}, ""},
		{api.Direct{Kind: api.DiMake, Name: "a", Pool: "p"}, ""},
		{api.Direct{Kind: api.DiMake, Name: "a", Size: 1}, ""},
		{api.Direct{Kind: api.DiMake, Pool: "p", Size: 1}, ""},
		{api.Direct{Kind: api.DiMake, Name: "a", Pool: "p q", Size: 1}, ""},
		{api.Direct{Kind: api.DiMake, Name: "a access=public", Pool: "p", Size: 1}, ""},
		{api.Direct{Kind: api.DiMake, Name: "a capacity=1 pool=p", Pool: "p", Size: 1}, ""},
		{api.Direct{Kind: api.DiDrop}, ""},
		{api.Direct{Kind: api.DiDrop, Name: "a", Size: 1}, ""},
		{api.Direct{Kind: api.DiDrop, Name: "a", Pool: "p"}, ""},
		{api.Direct{Kind: api.DiUse, Name: "a b"}, ""},
		{api.Direct{Kind: api.DiUse, Name: "a\n"}, ""},
		{api.Direct{Kind: api.DiUse, Name: "-a"}, ""},
		{api.Direct{Kind: api.DiUse, Name: x + "x"}, ""},
		{api.Direct{Kind: api.DiUse, Name: "a", Open: true}, ""},
		{api.Direct{Kind: api.DiUse, Name: "a", Size: -1}, ""},
	} {
		want := wrong
		if c.s != "" {
			want = api.OK
		}
		s, e := direct.Text(c.d)
		if f := direct.Check(c.d); f != want || e != want || s != c.s {
			t.Errorf("of %v Check is %d, Text %q, %d, not %q", c.d, f, s, e, c.s)
		}
		holdText(t, c.d)
	}
}

// TestAll holds Check and Text of each kind with all of these names, pools and sizes against the chapter's words.
func TestAll(t *testing.T) { // P14.2, P14.3
	x := strings.Repeat("x", long)
	names := []string{"", "a", "Z9", "_", x, x + "x", "-", ".a", "a b", "a=b", "a\n", "\u00e9", "\xff", " ", "access", "a access=public", strings.Repeat("x", 600)}
	sizes := []int64{math.MinInt64, -top, -1024, -1, 0, 1, 2, 999, 1000, 1023, 1024, 1025, 1536, 1 << 20, 1<<20 + 1, 5 << 30, 1e12, top - 1024, top - 1, top, top + 1, top + 1024, 2 * top, 1 << 62, math.MaxInt64}
	good := 0
	for kind := range 256 {
		for _, name := range names {
			for _, pool := range names {
				if kind > 8 && kind < 254 && (name != "" && name != "a" || pool != "" && pool != "a") {
					continue
				}
				for _, n := range sizes {
					for _, open := range []bool{false, true} {
						d := api.Direct{Kind: uint8(kind), Name: name, Pool: pool, Size: n, Open: open}
						holdText(t, d)
						if direct.Check(d) == api.OK {
							good++
						}
					}
				}
			}
		}
	}
	const sizesGood, namesGood = 15, 5
	if want := sizesGood*namesGood + 2*sizesGood + 2*sizesGood*namesGood*namesGood + 2*namesGood; good != want {
		t.Errorf("%d directives are valid, not %d", good, want)
	}
}

// orders returns the elements of l in all orders, each after a space.
func orders(l []string) []string {
	if len(l) == 0 {
		return []string{""}
	}
	var all []string
	for i, x := range l {
		rest := append(append([]string{}, l[:i]...), l[i+1:]...)
		for _, s := range orders(rest) {
			all = append(all, " "+x+s)
		}
	}
	return all
}

// TestOrders has fields in all orders.
func TestOrders(t *testing.T) { // P14.3
	for _, c := range []struct {
		word   string
		fields []string
		want   api.Direct
		text   string
	}{
		{"jobdw", []string{"capacity=3KiB", "pool=p"}, api.Direct{Kind: api.DiBuffer, Pool: "p", Size: 3072}, "#BB jobdw capacity=3KiB pool=p"},
		{"create_persistent", []string{"name=a", "capacity=3KiB", "pool=p"}, api.Direct{Kind: api.DiMake, Name: "a", Pool: "p", Size: 3072}, "#BB create_persistent name=a capacity=3KiB pool=p"},
		{"create_persistent", []string{"name=a", "capacity=3KiB", "pool=p", "access=private"}, api.Direct{Kind: api.DiMake, Name: "a", Pool: "p", Size: 3072}, "#BB create_persistent name=a capacity=3KiB pool=p"},
		{"create_persistent", []string{"name=a", "capacity=3KiB", "pool=p", "access=public"}, api.Direct{Kind: api.DiMake, Name: "a", Pool: "p", Size: 3072, Open: true}, "#BB create_persistent name=a capacity=3KiB pool=p access=public"},
	} {
		for _, fields := range orders(c.fields) {
			d, e := direct.Parse("#BB " + c.word + fields)
			if d != c.want || e != api.OK {
				t.Errorf("Parse of %s%s is %v, %d", c.word, fields, d, e)
			}
			if s, e := direct.Text(d); s != c.text || e != api.OK {
				t.Errorf("Text of Parse of %s%s is %q, %d", c.word, fields, s, e)
			}
		}
	}
}

// TestHuge has directives with texts that are much longer than a valid one.
func TestHuge(t *testing.T) { // P1, P14.2
	for _, s := range []string{"a", " ", "=", "\x00", "\xff", "a b", " name=a"} {
		huge := strings.Repeat(s, 1<<20)
		for kind := range 9 {
			for _, d := range []api.Direct{{Name: huge}, {Pool: huge}, {Name: huge, Pool: huge, Size: 1}, {Name: "a", Pool: huge, Size: 1}, {Name: huge, Pool: "p", Size: 1}, {Pool: huge, Size: 1}} {
				d.Kind = uint8(kind)
				holdText(t, d)
			}
		}
	}
}

// TestAgain calls each twice, with an error between: nothing is kept.
func TestAgain(t *testing.T) { // R4
	for _, s := range valid() {
		first, _ := direct.Parse(s)
		line, _ := direct.Text(first)
		if d, e := direct.Parse(s + " x=1"); d != (api.Direct{}) || e != wrong {
			t.Errorf("Parse(%q) is %v, %d", s+" x=1", d, e)
		}
		second, e := direct.Parse(s)
		again, f := direct.Text(second)
		if second != first || e != api.OK || again != line || f != api.OK {
			t.Errorf("of %q Parse is %v, then %v, %d; Text %q, then %q, %d", s, first, second, e, line, again, f)
		}
	}
}

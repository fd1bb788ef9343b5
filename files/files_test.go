package files_test

import (
	"maps"
	"math"
	"slices"
	"strings"
	"testing"

	"forebay/api"
	"forebay/files"
)

const (
	most   = 16      // files of a directory, written out, so that a wrong limit does not agree with itself
	great  = 1 << 24 // bytes of one
	nobody = "nobody"
)

var long = strings.Repeat("n", 32) // the longest name

// badNames are not names.
func badNames() []string {
	return []string{"", long + "n", strings.Repeat("n", 1000)}
}

// content returns a directory's files, and fails where Names and Read do not agree.
func content(t *testing.T, d *files.Dir) map[string]string {
	t.Helper()
	l := d.Names()
	m := map[string]string{}
	for i, n := range l {
		s, e := d.Read(n)
		if e != api.OK || i > 0 && l[i-1] >= n {
			t.Fatalf("the name %q of %q: Read is %q, %d", n, l, s, e)
		}
		m[n] = s
	}
	return m
}

// has fails where a directory has other files than those of pairs, a name and bytes each.
func has(t *testing.T, what string, d *files.Dir, pairs ...string) {
	t.Helper()
	want := map[string]string{}
	for i := 0; i+1 < len(pairs); i += 2 {
		want[pairs[i]] = pairs[i+1]
	}
	if got := content(t, d); !maps.Equal(got, want) {
		t.Errorf("%s: there is %q, not %q", what, got, want)
	}
}

// is fails where an error is another one.
func is(t *testing.T, what string, e, want api.Errno) {
	t.Helper()
	if e != want {
		t.Errorf("%s is %d, not %d", what, e, want)
	}
}

// all fails where one of several calls returned an error.
func all(t *testing.T, l ...api.Errno) {
	t.Helper()
	for i, e := range l {
		if e != api.OK {
			t.Fatalf("call %d of %d is %d", i, len(l), e)
		}
	}
}

// open fails where another number of operations is open.
func open(t *testing.T, what string, d *files.Dir, want int) {
	t.Helper()
	if n := d.Pending(); n != want {
		t.Errorf("%s: %d operations are open, not %d", what, n, want)
	}
}

func TestNew(t *testing.T) { // P5.1
	for _, c := range []struct{ room, want int }{
		{0, 0}, {1, 1}, {20, 20}, {-1, 0}, {math.MinInt, 0}, {great - 1, great - 1}, {great, great}, {great + 1, great}, {math.MaxInt, great},
	} {
		d := files.New(c.room)
		if d.Room() != c.want || len(d.Names()) != 0 || d.Pending() != 0 {
			t.Errorf("New(%d): Room %d, Names %q, Pending %d", c.room, d.Room(), d.Names(), d.Pending())
		}
	}
	a, b := files.New(9), files.New(9)
	all(t, a.Make("x"))
	has(t, "another new one", b)
}

func TestNames(t *testing.T) { // P5.1
	d := files.New(100)
	want := []string{"\x00", "\x00\x00", " ", "A", "B", "a", "a\x00", "aa", "ab", "b", long, "~", "\xc3\xa4", "\xff", "\xff\xff"}
	for i := range want {
		all(t, d.Make(want[i*4%len(want)])) // in another order
	}
	l := d.Names()
	if !slices.Equal(l, want) {
		t.Errorf("Names is %q, not %q", l, want)
	}
	clear(l[:cap(l)])
	if !slices.Equal(d.Names(), want) {
		t.Error("what Names returned is the directory's memory")
	}
	all(t, d.Rename("a", "z"), d.Remove("b"))
	if l = d.Names(); slices.Contains(l, "a") || slices.Contains(l, "b") || !slices.Contains(l, "z") || !slices.IsSorted(l) {
		t.Errorf("Names is %q", l)
	}
}

func TestRoom(t *testing.T) { // P5.1
	d := files.New(20)
	room := func(want int) {
		t.Helper()
		if d.Room() != want {
			t.Errorf("Room is %d, not %d", d.Room(), want)
		}
	}
	all(t, d.Make("a"), d.Make("b"))
	room(20)
	all(t, d.Append("a", "12345"), d.Append("b", "123"), d.Append("a", "1"))
	room(11)
	all(t, d.Cut("a", 2))
	room(15)
	all(t, d.Rename("a", "b")) // three bytes are gone
	room(18)
	all(t, d.Sync())
	room(18)
	all(t, d.Remove("b"))
	room(20)
	d.Crash(api.Fault{})
	room(18)
}

func TestPending(t *testing.T) { // P5.1: each operation counts, nothing else does
	d := files.New(20)
	for i, e := range []api.Errno{
		d.Make("a"), d.Append("a", "xyz"), d.Append("a", ""), d.Cut("a", 3), d.Cut("a", 1), d.Rename("a", "a"), d.Rename("a", "b"), d.Make("c"), d.Rename("b", "c"), d.Remove("c"),
	} {
		is(t, "operation "+string(rune('0'+i)), e, api.OK)
	}
	open(t, "ten operations", d, 10)
	d.Read("a")
	d.Names()
	d.Room()
	d.Copy()
	open(t, "none more", d, 10)
	x := d.Copy()
	x.Crash(api.Fault{Keep: 9})
	open(t, "behind a failure", x, 0)
	all(t, d.Sync())
	open(t, "behind a Sync", d, 0)
	all(t, d.Make("a"))
	open(t, "another one", d, 1)
}

func TestMake(t *testing.T) { // P5.2
	d := files.New(20)
	for _, n := range badNames() {
		is(t, "Make of a bad name", d.Make(n), api.ErrArg)
	}
	is(t, "Make", d.Make("a"), api.OK)
	has(t, "an empty file", d, "a", "")
	all(t, d.Append("a", "xyz"))
	is(t, "Make again", d.Make("a"), api.ErrThere)
	has(t, "it is as it was", d, "a", "xyz")
	is(t, "Make of the longest name", d.Make(long), api.OK)
	for i := range most - 2 {
		is(t, "Make of any byte", d.Make(string([]byte{byte(i * 7)})), api.OK)
	}
	is(t, "one too many", d.Make(nobody), api.ErrFull)
	is(t, "one that is there, and too many", d.Make("a"), api.ErrThere)
	is(t, "a bad name, and too many", d.Make(""), api.ErrArg)
	if len(d.Names()) != most {
		t.Error(len(d.Names()))
	}
	open(t, "all files", d, most+1)
	all(t, d.Remove("a"))
	is(t, "Make of another, then", d.Make(nobody), api.OK)
	is(t, "Make without room for bytes", files.New(0).Make("a"), api.OK)
}

func TestAppend(t *testing.T) { // P5.2
	d := files.New(10)
	for _, n := range badNames() {
		is(t, "Append to a bad name", d.Append(n, "12345678901"), api.ErrArg)
	}
	is(t, "Append to no file", d.Append("a", "12345678901"), api.ErrNone)
	all(t, d.Make("a"), d.Make("b"), d.Append("a", "xy"), d.Append("b", "\x00\xff"), d.Append("a", ""), d.Append("a", "\n"))
	has(t, "appended", d, "a", "xy\n", "b", "\x00\xff")
	is(t, "a byte too many", d.Append("b", "123456"), api.ErrFull)
	has(t, "as before", d, "a", "xy\n", "b", "\x00\xff")
	is(t, "as many as there is room for", d.Append("b", "12345"), api.OK)
	is(t, "nothing, without room", d.Append("b", ""), api.OK)
	is(t, "a byte, without room", d.Append("a", "1"), api.ErrFull)
	is(t, "a byte, to no file", d.Append("c", "1"), api.ErrNone)
	has(t, "full", d, "a", "xy\n", "b", "\x00\xff12345")
	open(t, "as many as there were", d, 8)
	all(t, d.Cut("a", 2))
	is(t, "a byte, where one was cut", d.Append("b", "6"), api.OK)
}

func TestGreatest(t *testing.T) { // P5.1, P5.2
	d := files.New(math.MaxInt)
	part := strings.Repeat("0123456789abcdef", 1<<8)
	all(t, d.Make("a"))
	for range great / len(part) {
		all(t, d.Append("a", part), d.Sync())
	}
	is(t, "a byte more than MaxDir", d.Append("a", "x"), api.ErrFull)
	if s, _ := d.Read("a"); d.Room() != 0 || s != strings.Repeat(part, great/len(part)) {
		t.Error("a file of MaxDir bytes is not what was appended")
	}
	is(t, "more than MaxDir at once", files.New(great).Append("a", strings.Repeat("x", great+1)), api.ErrNone)
	e := files.New(great)
	all(t, e.Make("a"))
	is(t, "more than MaxDir at once", e.Append("a", strings.Repeat("x", great+1)), api.ErrFull)
	is(t, "MaxDir at once", e.Append("a", strings.Repeat("x", great)), api.OK)
}

func TestCut(t *testing.T) { // P5.2
	d := files.New(20)
	for _, n := range badNames() {
		is(t, "Cut of a bad name", d.Cut(n, 0), api.ErrArg)
	}
	for _, n := range []int{-1, math.MinInt} {
		is(t, "Cut below 0 of no file", d.Cut("a", n), api.ErrArg)
	}
	for _, n := range []int{0, 1, math.MaxInt} {
		is(t, "Cut of no file", d.Cut("a", n), api.ErrNone)
	}
	all(t, d.Make("a"), d.Append("a", "abcdef"))
	for _, n := range []int{-1, math.MinInt, 7, math.MaxInt} {
		is(t, "Cut to a wrong length", d.Cut("a", n), api.ErrArg)
	}
	has(t, "as before", d, "a", "abcdef")
	for _, c := range []struct {
		n    int
		want string
	}{{6, "abcdef"}, {4, "abcd"}, {1, "a"}, {0, ""}, {0, ""}} {
		is(t, "Cut", d.Cut("a", c.n), api.OK)
		has(t, "cut", d, "a", c.want)
	}
	is(t, "Cut to more than is left", d.Cut("a", 1), api.ErrArg)
	all(t, d.Append("a", "xyz"))
	has(t, "appended to what was cut", d, "a", "xyz")
	open(t, "those that were done", d, 8)
}

func TestRead(t *testing.T) { // P5.2
	d := files.New(20)
	all(t, d.Make("a"), d.Append("a", "x\x00y"))
	for _, n := range badNames() {
		if s, e := d.Read(n); s != "" || e != api.ErrArg {
			t.Errorf("Read of a bad name is %q, %d", s, e)
		}
	}
	if s, e := d.Read("b"); s != "" || e != api.ErrNone {
		t.Errorf("Read of no file is %q, %d", s, e)
	}
	if s, e := d.Read("a"); s != "x\x00y" || e != api.OK {
		t.Errorf("Read is %q, %d", s, e)
	}
}

func TestRename(t *testing.T) { // P5.3
	d := files.New(20)
	all(t, d.Make("a"), d.Append("a", "xy"), d.Make("b"), d.Append("b", "uvw"))
	for _, n := range badNames() {
		is(t, "Rename of a bad name", d.Rename(n, "a"), api.ErrArg)
		is(t, "Rename to a bad name", d.Rename("a", n), api.ErrArg)
		is(t, "Rename of no file to a bad name", d.Rename("c", n), api.ErrArg)
		is(t, "Rename of a bad name to itself", d.Rename(n, n), api.ErrArg)
	}
	is(t, "Rename of no file", d.Rename("c", "a"), api.ErrNone)
	is(t, "Rename of no file to itself", d.Rename("c", "c"), api.ErrNone)
	has(t, "as before", d, "a", "xy", "b", "uvw")
	open(t, "as before", d, 4)
	is(t, "Rename to itself", d.Rename("a", "a"), api.OK)
	has(t, "nothing changes", d, "a", "xy", "b", "uvw")
	open(t, "but it is an operation", d, 5)
	is(t, "Rename", d.Rename("a", "c"), api.OK)
	has(t, "another name", d, "b", "uvw", "c", "xy")
	is(t, "Rename to a file's name", d.Rename("b", "c"), api.OK)
	has(t, "the other is gone", d, "c", "uvw")
	is(t, "Rename of what is gone", d.Rename("b", "c"), api.ErrNone)
	all(t, d.Make("b"), d.Append("c", "!"))
	has(t, "a name anew", d, "b", "", "c", "uvw!")
	is(t, "Rename to the longest name", d.Rename("c", long), api.OK)
	for i := range most - 2 {
		all(t, d.Make(string(rune('0'+i))))
	}
	is(t, "Rename of one of the most files", d.Rename("b", "B"), api.OK)
	if len(d.Names()) != most {
		t.Errorf("there are %q", d.Names())
	}
}

func TestRemove(t *testing.T) { // P5.3
	d := files.New(20)
	all(t, d.Make("a"), d.Append("a", "xy"), d.Make("b"))
	for _, n := range badNames() {
		is(t, "Remove of a bad name", d.Remove(n), api.ErrArg)
	}
	is(t, "Remove of no file", d.Remove("c"), api.ErrNone)
	has(t, "as before", d, "a", "xy", "b", "")
	open(t, "as before", d, 3)
	is(t, "Remove", d.Remove("a"), api.OK)
	has(t, "one is gone", d, "b", "")
	is(t, "Remove of what is gone", d.Remove("a"), api.ErrNone)
	is(t, "Append to what is gone", d.Append("a", ""), api.ErrNone)
	all(t, d.Make("a"))
	has(t, "a new one", d, "a", "", "b", "")
}

func TestSync(t *testing.T) { // P5.3
	d := files.New(20)
	all(t, d.Make("a"), d.Append("a", "xy"), d.Make("b"), d.Append("b", "u"), d.Sync())
	has(t, "nothing changes", d, "a", "xy", "b", "u")
	open(t, "nothing is open", d, 0)
	all(t, d.Append("a", "z"), d.Cut("a", 1), d.Append("a", "zzz"), d.Remove("b"), d.Make("c"))
	d.Crash(api.Fault{Keep: -1})
	has(t, "what was safe", d, "a", "xy", "b", "u")
	all(t, d.Sync(), d.Sync())
	has(t, "synced twice", d, "a", "xy", "b", "u")
}

// TestChapter has the chapter's examples.
func TestChapter(t *testing.T) { // P5.4
	for i, c := range []struct {
		f    api.Fault
		want string
	}{
		{api.Fault{Keep: 0, Cut: 1}, "xyz"},
		{api.Fault{Keep: 1, Lose: 1, Cut: 0}, "xy"},
		{api.Fault{Keep: 1}, "xyzw"},
	} {
		d := files.New(20)
		all(t, d.Make("a"), d.Append("a", "xy"), d.Sync(), d.Append("a", "zw"))
		d.Crash(c.f)
		has(t, "example "+string(rune('0'+i)), d, "a", c.want)
	}
}

func TestCrash(t *testing.T) { // P5.4
	d := files.New(40)
	all(t, d.Make("a"), d.Append("a", "01"), d.Make("b"), d.Append("b", "89"), d.Sync())
	all(t,
		d.Append("a", "23"),  // 0
		d.Append("b", "AB"),  // 1
		d.Rename("a", "c"),   // 2
		d.Append("c", "45"),  // 3
		d.Cut("c", 5),        // 4
		d.Append("c", "six"), // 5
		d.Rename("c", "b"),   // 6
		d.Make("a"),          // 7
		d.Append("a", "new"), // 8
		d.Remove("b"),        // 9
	)
	for _, c := range []struct {
		what string
		f    api.Fault
		want []string
	}{
		{"nothing is kept", api.Fault{}, []string{"a", "01", "b", "89"}},
		{"not even a part", api.Fault{Keep: -1, Cut: 2}, []string{"a", "01", "b", "89"}},
		{"the least numbers", api.Fault{Keep: math.MinInt, Lose: math.MaxUint64, Cut: math.MinInt}, []string{"a", "01", "b", "89"}},
		{"a part of the next one", api.Fault{Cut: 1}, []string{"a", "012", "b", "89"}},
		{"all of the next one", api.Fault{Cut: 2}, []string{"a", "0123", "b", "89"}},
		{"not more than all of it", api.Fault{Cut: math.MaxInt}, []string{"a", "0123", "b", "89"}},
		{"less than nothing of it", api.Fault{Cut: -1}, []string{"a", "01", "b", "89"}},
		{"what is lost is not what is next", api.Fault{Lose: 1, Cut: 1}, []string{"a", "012", "b", "89"}},
		{"one is kept", api.Fault{Keep: 1}, []string{"a", "0123", "b", "89"}},
		{"one is kept in part, and a part of the next one", api.Fault{Keep: 1, Lose: 1, Cut: 1}, []string{"a", "012", "b", "89A"}},
		{"a Rename is not done in part", api.Fault{Keep: 2, Cut: 9}, []string{"a", "0123", "b", "89AB"}},
		{"a Rename is kept", api.Fault{Keep: 3}, []string{"b", "89AB", "c", "0123"}},
		{"a Rename is not lost", api.Fault{Keep: 3, Lose: 4, Cut: 0}, []string{"b", "89AB", "c", "0123"}},
		{"damaged under another name", api.Fault{Keep: 3, Lose: 1, Cut: 1}, []string{"b", "89AB", "c", "012"}},
		{"an Append to what is damaged", api.Fault{Keep: 4, Lose: 1, Cut: 1}, []string{"b", "89AB", "c", "012"}},
		{"two that are lost, of one file", api.Fault{Keep: 4, Lose: 1 | 8, Cut: 1}, []string{"b", "89AB", "c", "012"}},
		{"damaged though all of it is there", api.Fault{Keep: 4, Lose: 1, Cut: 2}, []string{"b", "89AB", "c", "0123"}},
		{"damaged though more than all of it is there", api.Fault{Keep: 4, Lose: 1, Cut: 99}, []string{"b", "89AB", "c", "0123"}},
		{"a Cut of what is damaged", api.Fault{Keep: 5, Lose: 8, Cut: 2}, []string{"b", "89AB", "c", "012345"}},
		{"a Cut is not done in part", api.Fault{Keep: 4, Cut: 1}, []string{"b", "89AB", "c", "012345"}},
		{"a Cut is kept", api.Fault{Keep: 5}, []string{"b", "89AB", "c", "01234"}},
		{"a part behind a Cut", api.Fault{Keep: 5, Cut: 2}, []string{"b", "89AB", "c", "01234si"}},
		{"none of what is appended to what is damaged", api.Fault{Keep: 5, Lose: 1, Cut: 1}, []string{"b", "89AB", "c", "012"}},
		{"damaged over another file", api.Fault{Keep: 7, Lose: 1 | 2, Cut: 0}, []string{"b", "01"}},
		{"another file under the name of what is damaged", api.Fault{Keep: 9, Lose: 1, Cut: 1}, []string{"a", "new", "b", "012"}},
		{"a Make is not done in part", api.Fault{Keep: 7, Cut: 9}, []string{"b", "01234six"}},
		{"a Make is kept", api.Fault{Keep: 8}, []string{"a", "", "b", "01234six"}},
		{"a part of what is appended to what was made", api.Fault{Keep: 8, Cut: 1}, []string{"a", "n", "b", "01234six"}},
		{"a Remove is not done in part", api.Fault{Keep: 9, Cut: 9}, []string{"a", "new", "b", "01234six"}},
		{"a Remove of what is damaged", api.Fault{Keep: 10, Lose: 1, Cut: 1}, []string{"a", "new"}},
		{"all are kept", api.Fault{Keep: 10}, []string{"a", "new"}},
		{"more than all are kept", api.Fault{Keep: math.MaxInt, Cut: 1}, []string{"a", "new"}},
		{"all are lost", api.Fault{Keep: math.MaxInt, Lose: math.MaxUint64, Cut: 1}, []string{"a", "n"}},
		{"bits of none", api.Fault{Keep: 10, Lose: math.MaxUint64 &^ 1023, Cut: 0}, []string{"a", "new"}},
	} {
		x := d.Copy()
		x.Crash(c.f)
		has(t, c.what, x, c.want...)
		open(t, c.what, x, 0)
		x.Crash(api.Fault{Cut: 1})
		has(t, c.what+", again", x, c.want...)
	}
	open(t, "the directory itself", d, 10)
}

// TestDamageEnds holds that what a failure damaged takes operations again behind it.
func TestDamageEnds(t *testing.T) { // P5.4
	for _, f := range []api.Fault{{Keep: 1, Lose: 1, Cut: 1}, {Keep: 0, Cut: 1}} {
		d := files.New(20)
		all(t, d.Make("a"), d.Append("a", "xy"), d.Sync(), d.Append("a", "zw"))
		d.Crash(f)
		all(t, d.Append("a", "uv"))
		has(t, "appended behind a failure", d, "a", "xyzuv")
		x := d.Copy()
		x.Crash(api.Fault{Keep: 1})
		has(t, "it is kept by the next one", x, "a", "xyzuv")
		all(t, d.Cut("a", 1), d.Append("a", "!"))
		has(t, "cut behind a failure", d, "a", "x!")
		d.Crash(api.Fault{Keep: 2, Cut: 0})
		has(t, "and that is kept", d, "a", "x")
	}
}

// TestDamagedAndNew holds that a file that is made anew is not damaged by what was lost of one of that name.
func TestDamagedAndNew(t *testing.T) { // P5.4
	d := files.New(20)
	all(t, d.Make("a"), d.Append("a", "old"), d.Remove("a"), d.Make("a"), d.Append("a", "new"), d.Cut("a", 2))
	d.Crash(api.Fault{Keep: 6, Lose: 2, Cut: 1})
	has(t, "made anew", d, "a", "ne")
}

// TestManyOpen has more operations than Lose has bits.
func TestManyOpen(t *testing.T) { // P5.4
	d := files.New(1000)
	var names []string
	for i := range 10 {
		names = append(names, string(rune('a'+i)))
		all(t, d.Make(names[i]))
	}
	all(t, d.Sync())
	for i := range 200 {
		all(t, d.Append(names[i%10], string([]byte{byte(i), '.'})))
	}
	for bit := range 64 {
		for _, keep := range []int{bit, bit + 1, 64, 65, 128, 199, 200, 201} {
			x := d.Copy()
			x.Crash(api.Fault{Keep: keep, Lose: 1 << bit, Cut: 1})
			for f, name := range names {
				want := ""
				for i := f; i < 200 && i <= keep; i += 10 {
					want += string([]byte{byte(i), '.'})
					if i%64 == bit || i == keep {
						want = want[:len(want)-1]
						break
					}
				}
				if s, _ := x.Read(name); s != want {
					t.Fatalf("Keep %d, bit %d: %s is %q, not %q", keep, bit, name, s, want)
				}
			}
		}
	}
}

// TestTooMuch leaves more bytes than there is room for.
func TestTooMuch(t *testing.T) { // P5.1, P5.2, P5.4
	d := files.New(10)
	all(t, d.Make("a"), d.Append("a", "123456"), d.Sync())
	all(t, d.Append("a", "7"), d.Cut("a", 0), d.Make("b"), d.Append("b", "abcdefgh"), d.Append("a", "9"))
	d.Crash(api.Fault{Keep: 5, Lose: 1, Cut: 1}) // the last one is kept: its file is damaged
	has(t, "more than there is room for", d, "a", "1234567", "b", "abcdefgh")
	if d.Room() != -5 {
		t.Errorf("Room is %d, not -5", d.Room())
	}
	is(t, "Append of a byte", d.Append("b", "x"), api.ErrFull)
	is(t, "Append of nothing", d.Append("b", ""), api.ErrFull)
	is(t, "Append of nothing to no file", d.Append("c", ""), api.ErrNone)
	is(t, "Make", d.Make("c"), api.OK)
	is(t, "Rename", d.Rename("c", "e"), api.OK)
	is(t, "Cut", d.Cut("a", 3), api.OK)
	if d.Copy().Room() != -1 {
		t.Errorf("Room is %d, not -1", d.Copy().Room())
	}
	is(t, "Append of nothing, with less in it", d.Append("e", ""), api.ErrFull)
	is(t, "Cut of a byte more", d.Cut("a", 2), api.OK)
	is(t, "Append of nothing to what is full", d.Append("e", ""), api.OK)
	is(t, "Append of a byte to what is full", d.Append("e", "x"), api.ErrFull)
	all(t, d.Remove("b"), d.Append("e", "abcdefgh"))
	has(t, "in the end", d, "a", "12", "e", "abcdefgh")
}

// TestRefused holds that what returned an error is no operation, and has no index.
func TestRefused(t *testing.T) { // P5.2 to P5.4
	d := files.New(4)
	all(t, d.Make("a"), d.Sync(), d.Append("a", "xy"))
	for _, e := range []api.Errno{
		d.Make("a"), d.Make(""), d.Append("a", "zzz"), d.Append("b", ""), d.Append("", ""), d.Cut("a", 3), d.Cut("a", -1), d.Cut("b", 0), d.Rename("b", "a"), d.Rename("a", ""), d.Remove("b"), d.Remove(""),
	} {
		if e == api.OK {
			t.Error("what cannot be done is done")
		}
	}
	has(t, "nothing changes", d, "a", "xy")
	open(t, "nothing is open", d, 1)
	all(t, d.Append("a", "zw"))
	d.Crash(api.Fault{Keep: 2, Lose: 2, Cut: 1})
	has(t, "the next one has the next index", d, "a", "xyz")
}

func TestCopy(t *testing.T) { // P5.4
	d := files.New(30)
	all(t, d.Make("a"), d.Append("a", "01"), d.Sync(), d.Append("a", "23"), d.Append("a", "45"))
	x := d.Copy()
	has(t, "a copy", x, "a", "012345")
	open(t, "a copy", x, 2)
	if x.Room() != 24 {
		t.Errorf("a copy's Room is %d", x.Room())
	}
	// Appends to both, in turn: neither may be in the other's memory.
	all(t, d.Append("a", "dd"), x.Append("a", "xx"), d.Append("a", "ee"), x.Append("a", "yy"))
	has(t, "the first one, appended to", d, "a", "012345ddee")
	has(t, "a copy, appended to", x, "a", "012345xxyy")
	y := x.Copy()
	all(t, x.Cut("a", 3), x.Append("a", "XXXX"), d.Cut("a", 5), d.Append("a", "DD"), y.Append("a", "Y"), y.Make("y"), d.Remove("a"), d.Make("d"))
	has(t, "the first one", d, "d", "")
	has(t, "a copy that was changed", x, "a", "012XXXX")
	has(t, "a copy's copy", y, "a", "012345xxyyY", "y", "")
	x.Crash(api.Fault{Keep: 4, Cut: 1})
	has(t, "a failure of a copy", x, "a", "012345xxyy")
	open(t, "no failure of the others", y, 6)
	all(t, x.Append("a", "!"), y.Sync(), y.Append("a", "?"))
	d.Crash(api.Fault{Keep: 2, Cut: 1})
	has(t, "a failure of the first one", d, "a", "012345d")
	has(t, "a copy, behind it", x, "a", "012345xxyy!")
	has(t, "a copy's copy, behind it", y, "a", "012345xxyyY?", "y", "")
	y.Crash(api.Fault{})
	has(t, "a copy's copy that was synced", y, "a", "012345xxyyY", "y", "")
	x.Crash(api.Fault{})
	has(t, "what was safe of a copy", x, "a", "012345xxyy")
}

// TestSharedBytes holds that what is appended does not get into what is safe, or was cut.
func TestSharedBytes(t *testing.T) { // P5.2 to P5.4
	for n := range 70 {
		d := files.New(1000)
		all(t, d.Make("a"))
		want := ""
		for i := range n {
			want += string([]byte{byte('A' + i)})
			all(t, d.Append("a", want[i:]))
		}
		all(t, d.Sync())
		c := d.Copy()
		all(t, d.Append("a", "1"), c.Append("a", "2"))
		has(t, "the one that was copied", d, "a", want+"1")
		has(t, "its copy", c, "a", want+"2")
		safe, other := d.Copy(), d.Copy()
		all(t, d.Append("a", "3"))
		safe.Crash(api.Fault{})
		other.Crash(api.Fault{Keep: 1})
		all(t, safe.Append("a", "4"), other.Append("a", "5"), d.Append("a", "6"))
		has(t, "the one that goes on", d, "a", want+"136")
		has(t, "what was safe", safe, "a", want+"4")
		has(t, "what was kept", other, "a", want+"15")
	}
	d := files.New(1000)
	all(t, d.Make("a"))
	for range 50 {
		all(t, d.Append("a", "0123456789"))
	}
	all(t, d.Sync(), d.Cut("a", 5), d.Append("a", strings.Repeat("x", 300)))
	c := d.Copy()
	all(t, d.Cut("a", 9), d.Append("a", "yyyy"), c.Append("a", "z"))
	has(t, "cut twice", d, "a", "01234xxxxyyyy")
	has(t, "its copy", c, "a", "01234"+strings.Repeat("x", 300)+"z")
	d.Crash(api.Fault{})
	has(t, "what was safe", d, "a", strings.Repeat("0123456789", 50))
	c.Crash(api.Fault{Keep: 1})
	has(t, "what was safe, cut", c, "a", "01234")
}

// none fails where a directory that is none does not answer so.
func none(t *testing.T, d *files.Dir) {
	t.Helper()
	for _, name := range []string{"a", "", long + "n"} {
		is(t, "Make", d.Make(name), api.ErrNil)
		is(t, "Append", d.Append(name, "x"), api.ErrNil)
		is(t, "Cut", d.Cut(name, 0), api.ErrNil)
		is(t, "Cut below 0", d.Cut(name, -1), api.ErrNil)
		is(t, "Rename", d.Rename(name, "b"), api.ErrNil)
		is(t, "Rename to it", d.Rename("b", name), api.ErrNil)
		is(t, "Remove", d.Remove(name), api.ErrNil)
		if s, e := d.Read(name); s != "" || e != api.ErrNil {
			t.Errorf("Read is %q, %d", s, e)
		}
	}
	is(t, "Sync", d.Sync(), api.ErrNil)
	d.Crash(api.Fault{Keep: 1, Lose: 1, Cut: 1})
	if len(d.Names()) != 0 || d.Room() != 0 || d.Pending() != 0 || d.Copy() != nil {
		t.Error("what is none has something")
	}
}

func TestNone(t *testing.T) { // P5.1 to P5.4
	none(t, nil)
	none(t, &files.Dir{})
	d := files.New(9)
	all(t, d.Make("a"), d.Append("a", "xy"))
	value := *d // no call returned a pointer to it
	none(t, &value)
	has(t, "the directory itself", d, "a", "xy")
	open(t, "the directory itself", d, 2)
}

// model is a directory by the chapter's wording: its open operations are texts that are read again.
type model struct {
	room      int
	now, safe map[string]plain
	open      []step
}

type plain struct {
	s       string
	damaged bool
}

type step struct {
	kind       byte // m, a, c, n, r: Make, Append, Cut, Rename, Remove
	name, text string
	n          int
}

func newModel(room int) *model {
	return &model{room, map[string]plain{}, map[string]plain{}, nil}
}

func (m *model) copy() *model {
	return &model{m.room, maps.Clone(m.now), maps.Clone(m.safe), slices.Clone(m.open)}
}

// left is how much room there is.
func (m *model) left() int {
	n := m.room
	for _, f := range m.now {
		n -= len(f.s)
	}
	return n
}

func isName(s string) bool { return len(s) >= 1 && len(s) <= 32 }

// wrong is the error of an operation.
func (m *model) wrong(o step) api.Errno {
	f, there := m.now[o.name]
	switch {
	case !isName(o.name), o.kind == 'n' && !isName(o.text), o.kind == 'c' && o.n < 0:
		return api.ErrArg
	case o.kind == 'm' && there:
		return api.ErrThere
	case o.kind != 'm' && !there:
		return api.ErrNone
	case o.kind == 'c' && o.n > len(f.s):
		return api.ErrArg
	case o.kind == 'm' && len(m.now) == most, o.kind == 'a' && len(o.text) > m.left():
		return api.ErrFull
	}
	return api.OK
}

// repeat does one operation to files; short: with no more than the first cut bytes of an Append.
func repeat(l map[string]plain, o step, short bool, cut int) {
	f, there := l[o.name]
	switch {
	case o.kind == 'm':
		l[o.name] = plain{}
	case !there:
	case o.kind == 'n':
		delete(l, o.name)
		l[o.text] = f
	case o.kind == 'r':
		delete(l, o.name)
	case f.damaged:
	case o.kind == 'c':
		l[o.name] = plain{f.s[:o.n], false}
	case short:
		l[o.name] = plain{f.s + o.text[:max(0, min(cut, len(o.text)))], true}
	default:
		l[o.name] = plain{f.s + o.text, false}
	}
}

func (m *model) do(o step) api.Errno {
	if e := m.wrong(o); e != api.OK {
		return e
	}
	repeat(m.now, o, false, 0)
	m.open = append(m.open, o)
	return api.OK
}

func (m *model) sync() { m.safe, m.open = maps.Clone(m.now), nil }

func (m *model) crash(f api.Fault) {
	for i, o := range m.open {
		if i < f.Keep {
			repeat(m.safe, o, f.Lose&(1<<uint(i%64)) != 0, f.Cut)
		}
		if i == f.Keep && o.kind == 'a' {
			repeat(m.safe, o, true, f.Cut)
		}
	}
	for name, f := range m.safe {
		m.safe[name] = plain{f.s, false}
	}
	m.now, m.open = maps.Clone(m.safe), nil
}

// agree fails where a directory and a model differ in anything that can be observed.
func agree(t *testing.T, what string, d *files.Dir, m *model) {
	t.Helper()
	want := map[string]string{}
	for name, f := range m.now {
		want[name] = f.s
	}
	if got := content(t, d); !maps.Equal(got, want) {
		t.Fatalf("%s: there is %q, not %q, after %v", what, got, want, m.open)
	}
	if d.Room() != m.left() || d.Pending() != len(m.open) {
		t.Fatalf("%s: Room %d, Pending %d, not %d, %d", what, d.Room(), d.Pending(), m.left(), len(m.open))
	}
}

// perform does an operation to a directory.
func perform(d *files.Dir, o step) api.Errno {
	switch o.kind {
	case 'm':
		return d.Make(o.name)
	case 'a':
		return d.Append(o.name, o.text)
	case 'c':
		return d.Cut(o.name, o.n)
	case 'n':
		return d.Rename(o.name, o.text)
	}
	return d.Remove(o.name)
}

// numbers returns a function that answers other numbers below most each time, the same ones in each run.
func numbers(seed uint64) func(most int) int {
	return func(most int) int {
		seed = seed*6364136223846793005 + 1442695040888963407
		return int(seed >> 33 % uint64(most))
	}
}

// someStep returns an operation, now and then one that cannot be done.
func someStep(next func(int) int) step {
	names := []string{"a", "a", "b", "b", "c", long, "", long + "n"}
	o := step{kind: "mmaaaaaaaacccnr"[next(15)], name: names[next(8-next(3))], n: next(9) - 1}
	o.text = "0123456789abcdefghijklmnopqrstuvwxyz"[next(30):][:next(6)]
	if o.kind == 'n' {
		o.text = names[next(8-next(3))]
	}
	return o
}

func someFault(next func(int) int, pending int) api.Fault {
	f := api.Fault{Keep: next(pending+3) - 1, Cut: next(8) - 1}
	for range next(5) {
		f.Lose |= 1 << next(min(pending+2, 64))
	}
	return f
}

// TestWalk holds long walks, with failures, Syncs and copies, against the model.
func TestWalk(t *testing.T) { // P5.1 to P5.5
	full, tight := 0, 0
	for seed := range uint64(60) {
		next := numbers(seed + 1)
		room := 5 + next(20)
		d, m := files.New(room), newModel(room)
		for range 400 {
			o := someStep(next)
			e, want := perform(d, o), m.do(o)
			if e != want {
				t.Fatalf("%c of %q, %q, %d is %d, not %d", o.kind, o.name, o.text, o.n, e, want)
			}
			agree(t, "an operation", d, m)
			if e == api.ErrFull {
				full++
			}
			if d.Room() < 0 {
				tight++
			}
			f := someFault(next, d.Pending())
			x, y := d.Copy(), m.copy()
			agree(t, "a copy", x, y)
			x.Crash(f)
			y.crash(f)
			agree(t, "a failure of a copy", x, y)
			agree(t, "the one that was copied", d, m)
			turn := next(40)
			if x.Room() < 0 { // this is rare: go on with it
				turn = 1
			}
			switch turn {
			case 0:
				all(t, d.Sync())
				m.sync()
				agree(t, "a Sync", d, m)
			case 1, 2:
				d, m = x, y
			case 3:
				d.Crash(f)
				m.crash(f)
				agree(t, "a failure", d, m)
			}
		}
	}
	if full < 100 || tight < 100 {
		t.Errorf("the walks were full %d times, and had too much %d times", full, tight)
	}
}

// TestKeptAll has failures that lose nothing, or come when all is safe.
func TestKeptAll(t *testing.T) { // P5.5
	next := numbers(7)
	d := files.New(80)
	for range 2000 {
		perform(d, someStep(next))
		want := content(t, d)
		for _, keep := range []int{d.Pending(), d.Pending() + 1, math.MaxInt} {
			x := d.Copy()
			x.Crash(api.Fault{Keep: keep, Cut: next(9) - 2})
			if got := content(t, x); !maps.Equal(got, want) || x.Room() != d.Room() || x.Pending() != 0 {
				t.Fatalf("all was kept: %q, not %q", got, want)
			}
		}
		x := d.Copy()
		all(t, x.Sync())
		for range 3 {
			x.Crash(someFault(next, 4))
			if got := content(t, x); !maps.Equal(got, want) || x.Room() != d.Room() {
				t.Fatalf("all was safe: %q, not %q", got, want)
			}
		}
		if next(50) == 0 {
			d = x
		}
	}
}

// TestBeginnings holds that each file is, after a failure, a beginning of what some file was since the last Sync.
func TestBeginnings(t *testing.T) { // P5.5
	for seed := range uint64(40) {
		next := numbers(seed + 100)
		d := files.New(60)
		for range 60 {
			perform(d, someStep(next))
		}
		all(t, d.Sync())
		var was []string
		note := func() {
			for _, s := range content(t, d) {
				was = append(was, s)
			}
		}
		note()
		for range 60 {
			perform(d, someStep(next))
			note()
			for range 5 {
				x := d.Copy()
				x.Crash(someFault(next, x.Pending()))
				for name, s := range content(t, x) {
					if !slices.ContainsFunc(was, func(b string) bool { return strings.HasPrefix(b, s) }) {
						t.Fatalf("%s is %q, which none of %q begins with", name, s, was)
					}
				}
			}
		}
	}
}

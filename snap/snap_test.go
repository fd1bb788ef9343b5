package snap_test

import (
	"hash/crc64"
	"maps"
	"math"
	"slices"
	"strings"
	"testing"

	"forebay/api"
	"forebay/files"
	"forebay/snap"
)

const (
	most  = 1 << 18 // bytes of a string, written out, so that a wrong limit does not agree with itself
	more  = 20      // bytes of a frame, beside its string
	count = 16      // files of a directory
	steps = 5       // of a Put
)

var (
	table = crc64.MakeTable(crc64.ECMA)
	long  = strings.Repeat("n", 31) // the longest name
)

// badNames are not names of a snapshot.
func badNames() []string {
	return []string{"", long + "n", long + "~", long + "nn", strings.Repeat("n", 1000)}
}

// someStrings are strings that can be put: the shortest and the longest one, and some that look like what is around them.
func someStrings() []string {
	return []string{"", "a", "abc", "\x00", "\xff\n\x00~", frame(""), frame("abc"), frame("a") + frame("b"), sealed("abc"), strings.Repeat("x", 300), strings.Repeat("\xff", most-1), strings.Repeat("y", most)}
}

// sealed is as layer 2 describes it, by the library's sums.
func sealed(s string) string {
	b := []byte(s)
	sum := crc64.Checksum(b, table)
	for range 8 {
		b = append(b, byte(sum))
		sum >>= 8
	}
	return string(b)
}

// frame returns the frame of a string, as layer 6 describes it.
func frame(s string) string {
	n := len(s)
	return sealed(string([]byte{byte(n), byte(n >> 8), byte(n >> 16), byte(n >> 24)})) + sealed(s)
}

// content returns a directory's files.
func content(d *files.Dir) map[string]string {
	m := map[string]string{}
	for _, n := range d.Names() {
		m[n], _ = d.Read(n)
	}
	return m
}

// has fails where a directory has other files than those of pairs, a name and bytes each.
func has(t *testing.T, what string, d *files.Dir, pairs ...string) {
	t.Helper()
	want := map[string]string{}
	for i := 0; i+1 < len(pairs); i += 2 {
		want[pairs[i]] = pairs[i+1]
	}
	if got := content(d); !maps.Equal(got, want) {
		t.Fatalf("%s: there is %q, not %q", what, got, want)
	}
}

// is fails where an error is another one.
func is(t *testing.T, what string, e, want api.Errno) {
	t.Helper()
	if e != want {
		t.Fatalf("%s is %d, not %d", what, e, want)
	}
}

// all fails where one of several calls returned an error.
func all(t *testing.T, l ...api.Errno) {
	t.Helper()
	for i, e := range l {
		if e != api.OK {
			t.Fatalf("call %d of %d is %d", i, len(l), e)
		}
	}
}

// open fails where another number of operations is open.
func open(t *testing.T, what string, d *files.Dir, want int) {
	t.Helper()
	if n := d.Pending(); n != want {
		t.Fatalf("%s: %d operations are open, not %d", what, n, want)
	}
}

// room returns a directory that can take n more bytes, with the file other, of ten bytes.
func room(t *testing.T, n int) *files.Dir {
	t.Helper()
	d := files.New(n + 10)
	all(t, d.Make("other"), d.Append("other", "0123456789"), d.Sync())
	return d
}

// file makes a file of bytes.
func file(t *testing.T, d *files.Dir, name, b string) {
	t.Helper()
	all(t, d.Make(name), d.Append(name, b))
}

// part fails where a Part does not return that.
func part(t *testing.T, what string, d *files.Dir, name, s string, n int, put bool, want api.Errno) {
	t.Helper()
	if got, e := snap.Part(d, name, s, n); got != put || e != want {
		t.Fatalf("%s: Part of %d steps is %t, %d, not %t, %d", what, n, got, e, put, want)
	}
}

// gets fails where a Get does not return that.
func gets(t *testing.T, what string, d *files.Dir, name, s string, want api.Errno) {
	t.Helper()
	if got, e := snap.Get(d, name); got != s || e != want {
		t.Fatalf("%s: Get is %.100q, %d, not %.100q, %d", what, got, e, s, want)
	}
}

// same fails where a directory, or what a failure would leave of it, differs from another one.
func same(t *testing.T, what string, d, want *files.Dir) {
	t.Helper()
	open(t, what, d, want.Pending())
	if d.Room() != want.Room() {
		t.Fatalf("%s: Room is %d, not %d", what, d.Room(), want.Room())
	}
	for keep := -1; keep <= want.Pending(); keep++ {
		x, y := d.Copy(), want.Copy()
		if keep >= 0 {
			x.Crash(api.Fault{Keep: keep, Cut: 1})
			y.Crash(api.Fault{Keep: keep, Cut: 1})
		}
		if got, want := content(x), content(y); !maps.Equal(got, want) {
			t.Fatalf("%s: there is %.200q, not %.200q", what, got, want)
		}
	}
}

// numbers returns a function that answers other numbers below most each time, the same ones in each run.
func numbers(seed uint64) func(most int) int {
	return func(most int) int {
		seed = seed*6364136223846793005 + 1442695040888963407
		return int(seed >> 33 % uint64(most))
	}
}

func TestPut(t *testing.T) { // P8.1, P8.2
	d := room(t, 2*(most+more))
	for _, s := range someStrings() {
		is(t, "Put", snap.Put(d, "s", s), api.OK) // each in place of the one before it
		has(t, "put", d, "s", frame(s), "other", "0123456789")
		open(t, "put", d, 0)
		gets(t, "put", d, "s", s, api.OK)
		x := d.Copy()
		x.Crash(api.Fault{Lose: math.MaxUint64})
		same(t, "put, and a failure", x, d)
	}
	d = room(t, 1000)
	for _, name := range []string{"a", "snap", "~", "s~", "\x00", "\xff\xff", " ", "base", long, long[1:] + "~"} {
		is(t, "Put", snap.Put(d, name, name), api.OK)
		has(t, name, d, name, frame(name), "other", "0123456789")
		gets(t, name, d, name, name, api.OK)
		all(t, d.Remove(name))
	}
}

// What a Put that was interrupted has left under the name with ~, or somebody else, is removed; other files stay.
func TestPutRemoves(t *testing.T) { // P8.1
	for _, left := range []string{"", "x", frame("left"), strings.Repeat("x", 200)} {
		d := room(t, 1000)
		file(t, d, "s~", left)
		file(t, d, "s~~", "y")
		file(t, d, "ss", "z")
		is(t, "Put", snap.Put(d, "s", "abc"), api.OK)
		has(t, "put", d, "s", frame("abc"), "s~~", "y", "ss", "z", "other", "0123456789")
		open(t, "put", d, 0)
	}
}

// A snapshot takes the place of whatever the file was; what was open is synced.
func TestPutReplaces(t *testing.T) { // P8.1
	for _, old := range []string{"", "no snapshot", frame("old"), frame("a") + frame("b")} {
		d := room(t, 1000)
		file(t, d, "s", old)
		all(t, d.Append("other", "!"))
		is(t, "Put", snap.Put(d, "s", "abc"), api.OK)
		open(t, "put", d, 0)
		d.Crash(api.Fault{Lose: math.MaxUint64})
		has(t, "put, and a failure", d, "s", frame("abc"), "other", "0123456789!")
	}
}

// Several snapshots in one directory do not change each other, nor do those in its copies.
func TestApart(t *testing.T) { // P8.1, P8.2
	d := room(t, 1000)
	all(t, snap.Put(d, "a", "1"), snap.Put(d, "b", "2"), snap.Put(d, "aa", "3"))
	c := d.Copy()
	all(t, snap.Put(c, "a", "4"), snap.Put(d, "b", "5"))
	has(t, "in a directory", d, "a", frame("1"), "b", frame("5"), "aa", frame("3"), "other", "0123456789")
	has(t, "in its copy", c, "a", frame("4"), "b", frame("2"), "aa", frame("3"), "other", "0123456789")
}

// TestPart has what is there behind each step, by the chapter's wording.
func TestPart(t *testing.T) { // P8.1
	old, s := frame("abc"), frame("de")
	for _, left := range []bool{false, true} { // something under the name with ~
		before := room(t, 1000)
		file(t, before, "s", old)
		pairs, operations := []string{"s", old, "other", "0123456789"}, 4
		if left {
			file(t, before, "s~", "left")
			pairs, operations = append(pairs, "s~", "left"), 7
		}
		pending := before.Pending()
		for i, c := range []struct {
			pending int
			pairs   []string
		}{
			{pending, pairs},
			{operations, []string{"s", old, "s~", s, "other", "0123456789"}},
			{0, []string{"s", old, "s~", s, "other", "0123456789"}},
			{1, []string{"s", s, "other", "0123456789"}},
			{0, []string{"s", s, "other", "0123456789"}},
			{0, []string{"s", s, "other", "0123456789"}},
			{0, []string{"s", s, "other", "0123456789"}},
		} {
			d := before.Copy()
			part(t, "each step", d, "s", "de", i, i >= steps, api.OK)
			has(t, "each step", d, c.pairs...)
			open(t, "each step", d, c.pending)
		}
	}
	for _, n := range []int{steps, steps + 1, 1000, math.MaxInt} {
		d := files.New(100)
		part(t, "all steps", d, "s", "de", n, true, api.OK)
		has(t, "all steps", d, "s", s)
		open(t, "all steps", d, 0)
	}
}

// A Part begins at the first step, whatever another one has done.
func TestPartAgain(t *testing.T) { // P8.1
	for first := range steps + 1 {
		for second := range steps + 1 {
			d := room(t, 1000)
			all(t, snap.Put(d, "s", "old"))
			part(t, "the first one", d, "s", "first", first, first == steps, api.OK)
			part(t, "the second one", d, "s", "second", second, second == steps, api.OK)
			want := "old"
			if first > 2 {
				want = "first"
			}
			if second > 2 {
				want = "second"
			}
			gets(t, "behind both", d, "s", want, api.OK)
			all(t, snap.Put(d, "s", "third"))
			has(t, "put at last", d, "s", frame("third"), "other", "0123456789")
		}
	}
}

func TestPutWrong(t *testing.T) { // P8.1
	tooLong := strings.Repeat("x", most+1)
	for _, name := range append(badNames(), "s", long) {
		for _, s := range []string{"", "abc", tooLong} {
			for _, d := range []*files.Dir{nil, {}} {
				is(t, "Put in no directory", snap.Put(d, name, s), api.ErrNil)
				for _, n := range []int{math.MinInt, -1, 0, 1, steps} {
					part(t, "in no directory", d, name, s, n, false, api.ErrNil)
				}
			}
		}
	}
	d := room(t, 3*most)
	all(t, snap.Put(d, "s", "abc"), d.Append("other", "!"))
	file(t, d, "s~", "left")
	before := d.Copy()
	for _, s := range []string{"", "abc", tooLong, tooLong + tooLong + tooLong} {
		for _, name := range badNames() {
			is(t, "Put of a bad name", snap.Put(d, name, s), api.ErrArg)
			for n := range steps + 1 {
				part(t, "of a bad name", d, name, s, n-1, false, api.ErrArg)
			}
		}
		for _, n := range []int{-1, -2, -5, math.MinInt} {
			part(t, "of steps below 0", d, "s", s, n, false, api.ErrArg)
		}
	}
	for _, s := range []string{tooLong, tooLong + "x", strings.Repeat(tooLong, 12)} { // the last one has no room either
		is(t, "Put of what is too long", snap.Put(d, "s", s), api.ErrLong)
		for n := range steps + 2 {
			part(t, "of what is too long", d, "s", s, n, false, api.ErrLong)
		}
	}
	same(t, "behind errors", d, before)
}

// Without room for the frame nothing is changed at all; with just as much, it is put.
func TestPutWithoutBytes(t *testing.T) { // P8.1
	for _, s := range []string{"", "abc", strings.Repeat("x", 100)} {
		need := len(frame(s))
		for n := range need + 1 {
			d := room(t, n)
			all(t, d.Append("other", "")) // something that is open
			before, want := d.Copy(), api.ErrFull
			if n == need {
				want = api.OK
			}
			for i := range steps + 1 {
				x, e := d.Copy(), want
				if i == 0 {
					e = api.OK // nothing is done, so there is room
				}
				part(t, "almost full", x, "s", s, i, e == api.OK && i == steps, e)
				if e != api.OK || i == 0 {
					same(t, "almost full", x, before)
				}
			}
			is(t, "Put", snap.Put(d, "s", s), want)
			if want != api.OK {
				same(t, "almost full", d, before)
				gets(t, "almost full", d, "s", "", api.ErrNone)
			}
		}
	}
}

// The old one needs its room until the new one is there; what was left under the name with ~ does not.
func TestPutWithoutRoomForBoth(t *testing.T) { // P8.1
	d := room(t, 23+40)
	all(t, snap.Put(d, "s", "abc"))
	before := d.Copy()
	is(t, "Put without room for both", snap.Put(d, "s", strings.Repeat("x", 21)), api.ErrFull)
	same(t, "the old one", d, before)
	gets(t, "the old one", d, "s", "abc", api.OK)
	file(t, d, "s~", strings.Repeat("y", 40))
	before = d.Copy()
	is(t, "Put without room for both, again", snap.Put(d, "s", strings.Repeat("x", 21)), api.ErrFull)
	same(t, "what was left, too", d, before)
	gets(t, "the old one", d, "s", "abc", api.OK)
	is(t, "Put where what was left had it", snap.Put(d, "s", strings.Repeat("x", 20)), api.OK)
	has(t, "the new one", d, "s", frame(strings.Repeat("x", 20)), "other", "0123456789")
}

func TestPutWithoutFiles(t *testing.T) { // P8.1
	d := files.New(1000)
	all(t, snap.Put(d, "s", "abc"))
	for i := range count - 1 {
		all(t, d.Make(string(rune('A'+i))))
	}
	before := d.Copy()
	is(t, "Put among all files", snap.Put(d, "s", "de"), api.ErrFull)
	is(t, "Put of one more", snap.Put(d, "new", "de"), api.ErrFull)
	part(t, "among all files", d, "s", "de", 1, false, api.ErrFull)
	part(t, "among all files", d, "s", "de", 0, false, api.OK)
	same(t, "among all files", d, before)
	gets(t, "among all files", d, "s", "abc", api.OK)
	all(t, d.Rename("A", "s~"))
	is(t, "Put where the file with ~ is one of them", snap.Put(d, "s", "de"), api.OK)
	gets(t, "where the file with ~ is one of them", d, "s", "de", api.OK)
	is(t, "Put, then, of one more", snap.Put(d, "new", "fgh"), api.OK)
	gets(t, "one more", d, "new", "fgh", api.OK)
}

// Without any room, as only a failure leaves it, there is none either.
func TestPutBelowNoRoom(t *testing.T) { // P8.1
	d := files.New(60)
	all(t, snap.Put(d, "s", "abc"), d.Make("a"), d.Append("a", strings.Repeat("x", 37)), d.Sync())
	all(t, d.Append("a", ""), d.Cut("a", 0), d.Make("b"), d.Append("b", strings.Repeat("y", 37)))
	d.Crash(api.Fault{Keep: 4, Lose: 1})
	if d.Room() >= 0 {
		t.Fatal(d.Room())
	}
	before := d.Copy()
	is(t, "Put", snap.Put(d, "s", ""), api.ErrFull)
	same(t, "as before", d, before)
	gets(t, "as before", d, "s", "abc", api.OK)
	all(t, d.Rename("b", "s~"))
	is(t, "Put where what was left makes up for it, no more", snap.Put(d, "s", ""), api.ErrFull)
	all(t, d.Cut("a", 16))
	is(t, "Put where it makes room", snap.Put(d, "s", "x"), api.OK)
	has(t, "put", d, "s", frame("x"), "a", strings.Repeat("x", 16))
}

func TestGet(t *testing.T) { // P8.2
	for _, s := range someStrings() {
		d := room(t, most+more)
		file(t, d, "s", frame(s)) // whoever wrote it
		before := d.Copy()
		gets(t, "a snapshot's file", d, "s", s, api.OK)
		gets(t, "once more", d, "s", s, api.OK)
		same(t, "Get changes nothing", d, before)
	}
	d := room(t, 1000)
	for _, name := range []string{"a", "~", "s~", "\x00", long} {
		file(t, d, name, frame(name))
		gets(t, name, d, name, name, api.OK)
	}
}

func TestGetWrong(t *testing.T) { // P8.2
	for _, name := range append(badNames(), "s", long) {
		gets(t, "in no directory", nil, name, "", api.ErrNil)
		gets(t, "in a zero one", &files.Dir{}, name, "", api.ErrNil)
	}
	d := room(t, 1000)
	file(t, d, long+"n", frame("abc"))
	file(t, d, long+"~", frame("abc"))
	file(t, d, "a~", frame("abc"))
	for _, name := range badNames() {
		gets(t, "of a bad name", d, name, "", api.ErrArg)
	}
	for _, name := range []string{"s", long, "a", "other~", "othe", "~"} {
		gets(t, "of no file", d, name, "", api.ErrNone)
	}
	gets(t, "of another file", d, "other", "", api.ErrSnap)
}

// Files that are not exactly a frame are no snapshots, and left as they are.
func TestGetNoSnapshot(t *testing.T) { // P8.2
	abc := frame("abc")
	l := []string{
		"", "x", "\x00", "abc", strings.Repeat("\x00", more), strings.Repeat("\x00", 100), sealed(""), sealed("abc"),
		abc + "x", abc + "\x00", abc + abc, abc + frame(""), frame("") + abc, frame("") + frame(""), abc + abc[:22], "x" + abc, abc[1:],
		frame(strings.Repeat("x", most+1)),
		sealed("\x02\x00\x00\x00") + sealed("abc"), sealed("\x04\x00\x00\x00") + sealed("abc"), sealed("\x00\x00\x00\x03") + sealed("abc"), "\x03\x00\x00\x00" + sealed("abc"),
	}
	for n := range abc {
		l = append(l, abc[:n])
		for bit := range 8 {
			b := []byte(abc)
			b[n] ^= 1 << bit
			l = append(l, string(b))
		}
	}
	for _, b := range l {
		d := room(t, 2*most)
		file(t, d, "s", b)
		before := d.Copy()
		gets(t, "no snapshot", d, "s", "", api.ErrSnap)
		same(t, "Get changes nothing", d, before)
	}
}

// TestChapter has the chapter's examples.
func TestChapter(t *testing.T) { // P8.1 to P8.3
	d := files.New(1000)
	is(t, "Put", snap.Put(d, "s", "abc"), api.OK)
	x := d.Copy()
	part(t, "one step", x, "s", "de", 1, false, api.OK)
	x.Crash(api.Fault{})
	gets(t, "one step, and all is lost behind it", x, "s", "abc", api.OK)
	part(t, "three steps", d, "s", "de", 3, false, api.OK)
	d.Crash(api.Fault{Keep: d.Pending()})
	gets(t, "three steps, and all is kept", d, "s", "de", api.OK)
}

// faults calls do with failures of all kinds, for so many open operations that append at most so many bytes each.
func faults(pending, bytes int, do func(f api.Fault)) {
	for keep := -1; keep <= pending+1; keep++ {
		for lose := range uint64(1) << pending {
			for cut := -1; cut <= bytes+1; cut++ {
				do(api.Fault{Keep: keep, Lose: lose, Cut: cut})
			}
			do(api.Fault{Keep: keep, Lose: lose | 1<<63, Cut: math.MaxInt})
		}
	}
}

// olds are directories ahead of a Put under the name s, each with what Get returns then: no file, no snapshot, a snapshot; with something left under the name with ~, and without.
func olds(t *testing.T, do func(d *files.Dir, s string, e api.Errno)) {
	for _, c := range []struct {
		there bool
		b, s  string
		e     api.Errno
	}{
		{false, "", "", api.ErrNone}, {true, "", "", api.ErrSnap}, {true, "no snapshot", "", api.ErrSnap}, {true, frame("") + "x", "", api.ErrSnap},
		{true, frame(""), "", api.OK}, {true, frame("abc"), "abc", api.OK}, {true, frame(frame("de")), frame("de"), api.OK},
	} {
		for _, left := range []string{"", "x", frame("left")} {
			d := room(t, 1000)
			if c.there {
				file(t, d, "s", c.b)
			}
			if left != "" {
				file(t, d, "s~", left)
			}
			all(t, d.Sync())
			do(d, c.s, c.e)
		}
	}
}

// TestFailures has each failure within each step: there is what was there before, or what was put, as a whole; after the fourth step the latter.
func TestFailures(t *testing.T) { // P8.3
	olds(t, func(before *files.Dir, s string, e api.Errno) {
		for _, put := range []string{"", "de"} {
			for n := range steps + 2 {
				d, lost, kept := before.Copy(), 0, 0
				part(t, "ahead of a failure", d, "s", put, n, n >= steps, api.OK)
				faults(d.Pending(), len(frame(put)), func(f api.Fault) {
					x := d.Copy()
					x.Crash(f)
					got, ge := snap.Get(x, "s")
					isOld, isNew := got == s && ge == e, got == put && ge == api.OK
					if !isNew && (n >= 4 || !isOld) {
						t.Fatalf("behind %d steps %v leaves %q, %d", n, f, got, ge)
					}
					if isNew {
						kept++
					} else {
						lost++
					}
					if b, _ := x.Read("other"); b != "0123456789" {
						t.Fatalf("another file became %q", b)
					}
				})
				if n == 3 && (s != put || e != api.OK) && (lost == 0 || kept == 0) {
					t.Fatalf("%d failures behind three steps leave the old one, %d the new one", lost, kept)
				}
			}
		}
	})
}

// Behind a failure another Put, or the same one, is not in the way of what was left.
func TestPutBehindFailure(t *testing.T) { // P8.1, P8.3
	d := room(t, 23+22+22)
	all(t, snap.Put(d, "s", "abc"))
	for n := range steps + 1 {
		y := d.Copy()
		part(t, "ahead of a failure", y, "s", "de", n, n >= steps, api.OK)
		faults(y.Pending(), 22, func(f api.Fault) {
			x := y.Copy()
			x.Crash(f)
			for _, s := range []string{"fg", "", "de"} {
				is(t, "Put behind a failure", snap.Put(x, "s", s), api.OK)
				has(t, "put behind a failure", x, "s", frame(s), "other", "0123456789")
				open(t, "put behind a failure", x, 0)
			}
		})
	}
}

// A Put that has no room leaves nothing to a failure but what was there.
func TestFullAndFailure(t *testing.T) { // P8.1, P8.3
	d := room(t, 23+21)
	all(t, snap.Put(d, "s", "abc"), d.Append("other", ""))
	is(t, "Put without room", snap.Put(d, "s", "de"), api.ErrFull)
	faults(d.Pending(), 22, func(f api.Fault) {
		x := d.Copy()
		x.Crash(f)
		gets(t, "behind a failure", x, "s", "abc", api.OK)
		is(t, "Put of less", snap.Put(x, "s", "d"), api.OK)
	})
}

// plan is what is under a name, by the chapter's wording: a string now; what it was when it was synced; is there one?
type plan struct {
	s, safe         string
	there, wasThere bool
}

func (p plan) answer() (string, api.Errno) {
	if p.there {
		return p.s, api.OK
	}
	return "", api.ErrNone
}

func someFault(next func(int) int, pending int) api.Fault {
	f := api.Fault{Keep: next(pending+3) - 1, Cut: next(90) - 1}
	for range next(5) {
		f.Lose |= 1 << next(min(pending+2, 64))
	}
	return f
}

// TestWalk holds long walks over three names, with Puts that are interrupted, and failures, against the chapter's wording.
func TestWalk(t *testing.T) { // P8.1 to P8.3
	full, lost, kept := 0, 0, 0
	for seed := range uint64(40) {
		next := numbers(seed + 1)
		d := files.New(100 + next(400))
		names := []string{"a", "b", "aa"}
		m := map[string]*plan{"a": {}, "b": {}, "aa": {}}
		for range 400 {
			name := names[next(3)]
			switch next(8) {
			default:
				s, n := strings.Repeat(string(rune('a'+next(26))), next(60)), next(8)
				left, e := d.Read(name + "~")
				want := api.OK
				if n > 0 && (len(frame(s)) > d.Room()+len(left) || e == api.ErrNone && len(d.Names()) >= count) {
					want = api.ErrFull
					full++
				}
				part(t, "a walk", d, name, s, n, want == api.OK && n >= steps, want)
				if want == api.OK && n >= 2 { // the first Sync
					for _, p := range m {
						p.safe, p.wasThere = p.s, p.there
					}
				}
				if want == api.OK && n >= 3 {
					m[name].s, m[name].there = s, true
				}
				if want == api.OK && n >= 4 {
					m[name].safe, m[name].wasThere = s, true
				}
			case 0, 1:
				d.Crash(someFault(next, d.Pending()))
				for name, p := range m {
					s, e := snap.Get(d, name)
					now, ne := p.answer()
					was, we := plan{s: p.safe, there: p.wasThere}.answer()
					if !(s == now && e == ne) && !(s == was && e == we) {
						t.Fatalf("a failure leaves %q, %d, neither %q, %d nor %q, %d", s, e, now, ne, was, we)
					}
					if now != was && s == now {
						kept++
					} else if now != was {
						lost++
					}
					*p = plan{s: s, safe: s, there: e == api.OK, wasThere: e == api.OK}
				}
			}
			for name, p := range m {
				s, e := p.answer()
				gets(t, "a walk", d, name, s, e)
			}
		}
	}
	if full < 100 || lost < 100 || kept < 100 {
		t.Errorf("the walks were full %d times, lost %d strings, and kept %d", full, lost, kept)
	}
}

// Nothing is left of a Put but its file, with other ones or without.
func TestNames(t *testing.T) { // P8.1
	d := files.New(1000)
	for _, name := range []string{"b", "a", "b", "c", "a"} {
		all(t, snap.Put(d, name, name))
	}
	if l := d.Names(); !slices.Equal(l, []string{"a", "b", "c"}) {
		t.Error(l)
	}
}

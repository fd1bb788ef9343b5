package journal_test

import (
	"hash/crc64"
	"maps"
	"math"
	"slices"
	"strings"
	"testing"

	"forebay/api"
	"forebay/files"
	"forebay/journal"
)

const (
	most  = 1 << 18 // bytes of an entry, written out, so that a wrong limit does not agree with itself
	more  = 20      // bytes of a frame, beside its string
	count = 16      // files of a directory
)

var (
	table = crc64.MakeTable(crc64.ECMA)
	long  = strings.Repeat("n", 31) // the longest name
)

// badNames are not names of a journal.
func badNames() []string {
	return []string{"", long + "n", long + "nn", strings.Repeat("n", 1000)}
}

// firsts are first numbers, each with how it is packed: where the number of its bytes changes, and the greatest ones.
func firsts() map[uint64]string {
	return map[uint64]string{
		0: "\x00", 1: "\x01", 5: "\x05", 127: "\x7f", 128: "\x80\x01", 300: "\xac\x02", 16383: "\xff\x7f", 16384: "\x80\x80\x01",
		1 << 32: "\x80\x80\x80\x80\x10", 1 << 63: "\x80\x80\x80\x80\x80\x80\x80\x80\x80\x01",
		math.MaxUint64 - 1: "\xfe\xff\xff\xff\xff\xff\xff\xff\xff\x01", math.MaxUint64: "\xff\xff\xff\xff\xff\xff\xff\xff\xff\x01",
	}
}

// sealed is as layer 2 describes it, by the library's sums.
func sealed(s string) string {
	b := []byte(s)
	sum := crc64.Checksum(b, table)
	for range 8 {
		b = append(b, byte(sum))
		sum >>= 8
	}
	return string(b)
}

// frames returns the frames of all strings of l, as layer 6 describes them.
func frames(l ...string) string {
	b := ""
	for _, s := range l {
		n := len(s)
		b += sealed(string([]byte{byte(n), byte(n >> 8), byte(n >> 16), byte(n >> 24)})) + sealed(s)
	}
	return b
}

// packed returns a number, packed, as layer 1 describes it.
func packed(n uint64) string {
	b := ""
	for ; n > 127; n /= 128 {
		b += string([]byte{byte(n%128) + 128})
	}
	return b + string([]byte{byte(n)})
}

// written returns the bytes of a journal's file, as the chapter describes them.
func written(first uint64, l ...string) string {
	return frames(packed(first)) + frames(l...)
}

// content returns a directory's files.
func content(d *files.Dir) map[string]string {
	m := map[string]string{}
	for _, n := range d.Names() {
		m[n], _ = d.Read(n)
	}
	return m
}

// has fails where a directory has other files than those of pairs, a name and bytes each.
func has(t *testing.T, what string, d *files.Dir, pairs ...string) {
	t.Helper()
	want := map[string]string{}
	for i := 0; i+1 < len(pairs); i += 2 {
		want[pairs[i]] = pairs[i+1]
	}
	if got := content(d); !maps.Equal(got, want) {
		t.Fatalf("%s: there is %q, not %q", what, got, want)
	}
}

// is fails where an error is another one.
func is(t *testing.T, what string, e, want api.Errno) {
	t.Helper()
	if e != want {
		t.Fatalf("%s is %d, not %d", what, e, want)
	}
}

// all fails where one of several calls returned an error.
func all(t *testing.T, l ...api.Errno) {
	t.Helper()
	for i, e := range l {
		if e != api.OK {
			t.Fatalf("call %d of %d is %d", i, len(l), e)
		}
	}
}

// open fails where another number of operations is open.
func open(t *testing.T, what string, d *files.Dir, want int) {
	t.Helper()
	if n := d.Pending(); n != want {
		t.Fatalf("%s: %d operations are open, not %d", what, n, want)
	}
}

// room returns a directory that can take n more bytes, with the file other, of ten bytes.
func room(t *testing.T, n int) *files.Dir {
	t.Helper()
	d := files.New(n + 10)
	all(t, d.Make("other"), d.Append("other", "0123456789"), d.Sync())
	return d
}

// start returns what Start returns, which must be without an error.
func start(t *testing.T, d *files.Dir, name string, first uint64) *journal.Journal {
	t.Helper()
	j, e := journal.Start(d, name, first)
	is(t, "Start", e, api.OK)
	return j
}

// opened returns what Open returns, which must be without an error.
func opened(t *testing.T, d *files.Dir, name string) *journal.Journal {
	t.Helper()
	j, e := journal.Open(d, name)
	is(t, "Open", e, api.OK)
	return j
}

// keeps fails where a journal has another first number, or other entries.
func keeps(t *testing.T, what string, j *journal.Journal, first uint64, want ...string) {
	t.Helper()
	next := first + uint64(len(want)) // goes round
	if l := j.Entries(); !slices.Equal(l, want) || j.First() != first || j.Next() != next {
		t.Fatalf("%s: First %d, Next %d, Entries %q, not %d, %d, %q", what, j.First(), j.Next(), l, first, next, want)
	}
}

// starts fails where a Start of that name does not return an error, and a journal that is none.
func starts(t *testing.T, what string, d *files.Dir, name string, want api.Errno) {
	t.Helper()
	j, e := journal.Start(d, name, 7)
	is(t, "Start "+what, e, want)
	if j != nil {
		t.Fatalf("Start %s returns a journal", what)
	}
}

// opens fails where an Open of that name does not return an error, and a journal that is none.
func opens(t *testing.T, what string, d *files.Dir, name string, want api.Errno) {
	t.Helper()
	j, e := journal.Open(d, name)
	is(t, "Open "+what, e, want)
	if j != nil {
		t.Fatalf("Open %s returns a journal", what)
	}
}

// numbers returns a function that answers other numbers below most each time, the same ones in each run.
func numbers(seed uint64) func(most int) int {
	return func(most int) int {
		seed = seed*6364136223846793005 + 1442695040888963407
		return int(seed >> 33 % uint64(most))
	}
}

func TestStart(t *testing.T) { // P7.1, P7.3
	for first, pack := range firsts() {
		d := files.New(1000)
		j := start(t, d, "log", first)
		keeps(t, "a journal that was started", j, first)
		has(t, "a journal that was started", d, "log", frames(pack))
		open(t, "a journal that was started", d, 0)
		x := d.Copy()
		x.Crash(api.Fault{Lose: math.MaxUint64})
		keeps(t, "one that was started, behind a failure", opened(t, x, "log"), first)
	}
	d := files.New(1000)
	for _, name := range []string{"a", "log", "~", "log~", "\x00", "\xff\xff", " ", long} {
		keeps(t, name, start(t, d, name, 5), 5)
		has(t, name, d, name, written(5))
		all(t, d.Remove(name))
	}
}

// What another Start has left, or somebody else, under the name with ~, is removed; other files stay.
func TestStartRemoves(t *testing.T) { // P7.1
	for _, left := range []string{"", "x", written(9, "a", "b")} {
		d := room(t, 300)
		all(t, d.Make("log~"), d.Append("log~", left), d.Make("log~~"), d.Make("lo"))
		j := start(t, d, "log", 5)
		keeps(t, "started", j, 5)
		has(t, "started", d, "log", written(5), "log~~", "", "lo", "", "other", "0123456789")
		open(t, "started", d, 0)
	}
}

// A journal that is started takes the place of what was there; what was open is synced.
func TestStartAgain(t *testing.T) { // P7.1
	d := room(t, 300)
	j := start(t, d, "log", 5)
	all(t, j.Append("a", "b"), d.Append("other", "!"))
	open(t, "before", d, 2)
	k := start(t, d, "log", 7)
	keeps(t, "started again", k, 7)
	open(t, "started again", d, 0)
	all(t, k.Append("c"))
	keeps(t, "appended to", k, 7, "c")
	has(t, "appended to", d, "log", written(7, "c"), "other", "0123456789!")
	d.Crash(api.Fault{Lose: math.MaxUint64})
	has(t, "a failure", d, "log", written(7), "other", "0123456789!")
	all(t, d.Cut("log", 0), d.Append("log", "no journal"))
	keeps(t, "in place of another file", start(t, d, "log", 8), 8)
	has(t, "in place of another file", d, "log", written(8), "other", "0123456789!")
}

func TestStartWrong(t *testing.T) { // P7.1
	for _, name := range append(badNames(), "log", long) {
		starts(t, "in no directory", nil, name, api.ErrNil)
		starts(t, "in a zero one", &files.Dir{}, name, api.ErrNil)
	}
	full := room(t, 0)
	for i := range count - 1 {
		all(t, full.Make(string(rune('A'+i))))
	}
	for _, d := range []*files.Dir{room(t, 300), full} {
		before, pending := content(d), d.Pending()
		for _, name := range badNames() {
			starts(t, "of a bad name", d, name, api.ErrArg)
		}
		open(t, "of bad names", d, pending)
		if got := content(d); !maps.Equal(got, before) {
			t.Errorf("Start of bad names leaves %q of %q", got, before)
		}
	}
}

func TestStartWithoutBytes(t *testing.T) { // P7.1
	for first := range firsts() {
		size := len(written(first))
		for n := range size {
			d := room(t, n)
			j, e := journal.Start(d, "log", first)
			is(t, "Start without room", e, api.ErrFull)
			if j != nil {
				t.Error("Start without room returns a journal")
			}
			has(t, "no room", d, "log~", "", "other", "0123456789")
			open(t, "no room", d, 1)
		}
		d := room(t, size)
		keeps(t, "room enough", start(t, d, "log", first), first)
	}
	old := written(300, "a", "b") // it needs its room until the new one is there
	d := room(t, len(old)+20)
	all(t, d.Make("log"), d.Append("log", old), d.Sync())
	starts(t, "without room, again", d, "log", api.ErrFull)
	has(t, "no room for another", d, "log", old, "log~", "", "other", "0123456789")
	open(t, "no room for another", d, 1)
	starts(t, "without room, once more", d, "log", api.ErrFull)
	open(t, "one that is removed, and made", d, 3)
	has(t, "no room for another", d, "log", old, "log~", "", "other", "0123456789")
	keeps(t, "the old one", opened(t, d, "log"), 300, "a", "b")
	all(t, d.Append("log~", "0123456789abcdefghij")) // what is removed makes room
	starts(t, "without room for the last byte", d, "log", api.ErrFull)
	all(t, d.Cut("other", 9))
	keeps(t, "the new one", start(t, d, "log", 7), 7)
	has(t, "the new one", d, "log", written(7), "other", "012345678")
}

func TestStartWithoutFiles(t *testing.T) { // P7.1
	d := files.New(1000)
	j := start(t, d, "log", 5)
	all(t, j.Append("a"), j.Force())
	for i := range count - 1 {
		all(t, d.Make(string(rune('A'+i))))
	}
	all(t, d.Sync())
	before := content(d)
	starts(t, "among all files", d, "log", api.ErrFull)
	starts(t, "of one more", d, "new", api.ErrFull)
	open(t, "nothing was done", d, 0)
	if got := content(d); !maps.Equal(got, before) {
		t.Errorf("there is %q, not %q", got, before)
	}
	all(t, d.Rename("A", "log~"))
	keeps(t, "where the file with ~ is one of them", start(t, d, "log", 6), 6)
	keeps(t, "then there is one fewer", start(t, d, "new", 7), 7)
}

func TestOpen(t *testing.T) { // P7.1, P7.3
	lists := [][]string{nil, {""}, {"a"}, {"a", "bc"}, {"", "", ""}, {"same", "same"}, {packed(5), packed(6)}, {written(9, "inner", "x"), "outer"}, {strings.Repeat("\xff", 1000), "\x00"}}
	lists = append(lists, slices.Repeat([]string{"x"}, 500), []string{strings.Repeat("y", most), "z"})
	for first := range firsts() {
		for _, l := range lists {
			d := files.New(1 << 20)
			all(t, d.Make("log"), d.Append("log", written(first, l...)))
			keeps(t, "a journal's file", opened(t, d, "log"), first, l...)
			open(t, "nothing was cut off", d, 2)
			has(t, "nothing was cut off", d, "log", written(first, l...))
			keeps(t, "opened again", opened(t, d, "log"), first, l...)
		}
	}
	d := files.New(1000)
	for _, name := range []string{"a", "~", "log~", "\x00", long} {
		all(t, d.Make(name), d.Append(name, written(5, name)))
		keeps(t, name, opened(t, d, name), 5, name)
	}
}

// What is after a file's frames is cut off, and that is synced.
func TestOpenCuts(t *testing.T) { // P7.1
	long := strings.Repeat("y", 300)
	for _, behind := range []string{"x", "\x00", strings.Repeat("\x00", 50), frames("c")[:20], frames("c")[1:], frames(long)[:300], sealed("\x00\x00\x00\x00"), frames("c")[1:] + frames("d"), frames(strings.Repeat("x", most+1))} {
		for _, l := range [][]string{nil, {"a"}, {"a", "", "bc"}} {
			d := files.New(1 << 20)
			all(t, d.Make("log"), d.Append("log", written(5, l...)+behind), d.Make("other"), d.Append("other", "xy"))
			j := opened(t, d, "log")
			keeps(t, "cut off", j, 5, l...)
			has(t, "cut off", d, "log", written(5, l...), "other", "xy")
			open(t, "cut off", d, 0)
			x := d.Copy()
			x.Crash(api.Fault{})
			has(t, "cut off, and safe", x, "log", written(5, l...), "other", "xy")
			all(t, j.Append("new"))
			keeps(t, "appended where it was cut", opened(t, d, "log"), 5, append(slices.Clone(l), "new")...)
			open(t, "opened again, with nothing to cut", d, 1)
		}
	}
}

func TestOpenWrong(t *testing.T) { // P7.1
	for _, name := range append(badNames(), "log", long) {
		opens(t, "in no directory", nil, name, api.ErrNil)
		opens(t, "in a zero one", &files.Dir{}, name, api.ErrNil)
	}
	d := room(t, 1000)
	all(t, d.Make(long+"n"), d.Append(long+"n", written(5, "a")))
	for _, name := range badNames() {
		opens(t, "of a bad name", d, name, api.ErrArg)
	}
	for _, name := range []string{"log", long, "other~", "othe"} {
		opens(t, "of no file", d, name, api.ErrNone)
	}
	opens(t, "of another file", d, "other", api.ErrJournal)
	has(t, "as before", d, "other", "0123456789", long+"n", written(5, "a"))
	open(t, "as before", d, 2)
}

// Files whose first frame does not contain exactly a number are left as they are.
func TestOpenNoNumber(t *testing.T) { // P7.1
	ff := strings.Repeat("\xff", 9)
	for _, b := range []string{
		"", "x", "\x00", strings.Repeat("\x00", 40), packed(5), sealed(packed(5)), // no frame
		written(5, "a")[1:], "x" + written(5, "a"), written(5)[:20],
		frames(""), frames("", packed(5)), frames("\x80"), frames("\x80\x80"), frames(ff), // no number
		frames("\x85\x00"), frames("\x80\x00"), frames("\x80\x80\x00"), // more bytes than it needs
		frames(ff + "\x02"), frames(ff + "\x7f"), frames(ff + "\x81\x00"), frames(ff + "\xff\x01"), // above the greatest
		frames("\x05\x05"), frames(packed(300) + "x"), frames(packed(math.MaxUint64) + "\x00"), frames("log"), // more than a number
	} {
		for _, behind := range []string{"", written(5, "a"), "garbage"} {
			if b == "" && behind == written(5, "a") {
				continue // that is a journal
			}
			d := files.New(1000)
			all(t, d.Make("log"), d.Append("log", b+behind))
			opens(t, "of no number", d, "log", api.ErrJournal)
			has(t, "as before", d, "log", b+behind)
			open(t, "as before", d, 2)
		}
	}
}

func TestAppend(t *testing.T) { // P7.2, P7.3
	for first := range firsts() {
		d := room(t, 1<<20)
		j := start(t, d, "log", first)
		var want []string
		for i, l := range [][]string{{"a"}, {"b", "c"}, {""}, {"", "", ""}, {"\x00\xff\n"}, {packed(first)}, {written(9, "x")}, {strings.Repeat("y", most)}, {strings.Repeat("z", most), "end"}, slices.Repeat([]string{"x"}, 300)} {
			is(t, "Append", j.Append(l...), api.OK)
			want = append(want, l...)
			open(t, "one operation each", d, i+1)
			keeps(t, "appended", j, first, want...)
			has(t, "appended", d, "log", written(first, want...), "other", "0123456789")
			keeps(t, "appended, and opened", opened(t, d.Copy(), "log"), first, want...)
		}
	}
}

// All of l is one Append of the directory: one of nothing, too.
func TestAppendNothing(t *testing.T) { // P7.2
	d := room(t, 22)
	j := start(t, d, "log", 300)
	is(t, "Append of nothing", j.Append(), api.OK)
	is(t, "Append of an empty list", j.Append([]string{}...), api.OK)
	keeps(t, "nothing", j, 300)
	has(t, "nothing", d, "log", written(300), "other", "0123456789")
	open(t, "nothing", d, 2)
}

func TestAppendWrong(t *testing.T) { // P7.2
	tooLong := strings.Repeat("x", most+1)
	d := room(t, 200)
	j := start(t, d, "log", 5)
	all(t, j.Append("a"))
	for i, l := range [][]string{{tooLong}, {"b", tooLong}, {tooLong, "b"}, {"b", tooLong, "c"}, {tooLong, tooLong}, {tooLong + tooLong}, {strings.Repeat("x", most), tooLong}} {
		is(t, "Append of too long ones "+string(rune('0'+i)), j.Append(l...), api.ErrLong)
	}
	is(t, "Append without room", j.Append(tooLong[1:]), api.ErrFull)
	is(t, "Append without room for all", j.Append("b", strings.Repeat("x", 150)), api.ErrFull)
	is(t, "Append without room for the last", j.Append(slices.Repeat([]string{""}, 8)...), api.ErrFull)
	keeps(t, "as before", j, 5, "a")
	has(t, "as before", d, "log", written(5, "a"), "other", "0123456789")
	open(t, "as before", d, 1)
	all(t, j.Append("b"))
	keeps(t, "it goes on", j, 5, "a", "b")
	for n := range more + 3 { // room for one byte less than is needed, and for just as many
		d := room(t, 21+n)
		j := start(t, d, "log", 5)
		want := api.ErrFull
		if n == more+2 {
			want = api.OK
		}
		is(t, "Append to what is almost full", j.Append("bc"), want)
	}
}

// Without any room, as only a failure leaves it, there is none for nothing either.
func TestAppendBelowNoRoom(t *testing.T) { // P7.2
	d := files.New(60)
	j := start(t, d, "log", 5)
	all(t, d.Make("a"), d.Append("a", "0123456789"), d.Sync(), d.Append("a", "x"), d.Cut("a", 0), j.Append("0123456789abcdefgh"))
	d.Crash(api.Fault{Keep: 3, Lose: 1, Cut: 1})
	if d.Room() >= 0 {
		t.Fatal(d.Room())
	}
	j = opened(t, d, "log")
	is(t, "Append of nothing", j.Append(), api.ErrFull)
	is(t, "Append of an empty entry", j.Append(""), api.ErrFull)
	keeps(t, "as before", j, 5, "0123456789abcdefgh")
	open(t, "as before", d, 0)
}

func TestAppendLeavesItsList(t *testing.T) { // P7.2
	l := []string{"a", "b", "behind"}
	d := files.New(1000)
	j := start(t, d, "log", 5)
	all(t, j.Append(l[:2]...))
	if !slices.Equal(l, []string{"a", "b", "behind"}) {
		t.Errorf("the list became %q", l)
	}
	l[0], l[1] = "x", "y"
	keeps(t, "the list is not kept", j, 5, "a", "b")
}

func TestForce(t *testing.T) { // P7.2
	d := files.New(1000)
	j := start(t, d, "log", 5)
	all(t, j.Append("a", "b"), d.Make("other"))
	open(t, "appended", d, 2)
	is(t, "Force", j.Force(), api.OK)
	open(t, "forced", d, 0)
	all(t, j.Append("c"))
	keeps(t, "appended", j, 5, "a", "b", "c")
	d.Crash(api.Fault{})
	has(t, "a failure", d, "log", written(5, "a", "b"), "other", "")
	k := opened(t, d, "log")
	keeps(t, "a failure", k, 5, "a", "b")
	all(t, k.Append("d"), k.Force(), k.Force())
	d.Crash(api.Fault{Lose: math.MaxUint64})
	keeps(t, "another one", opened(t, d, "log"), 5, "a", "b", "d")
}

// The number after the greatest one is 0.
func TestNextGoesRound(t *testing.T) { // P7.3
	d := files.New(1000)
	j := start(t, d, "log", math.MaxUint64)
	if all(t, j.Append("a")); j.Next() != 0 || j.First() != math.MaxUint64 {
		t.Error(j.First(), j.Next())
	}
	if all(t, j.Append("b", "c")); j.Next() != 2 {
		t.Error(j.Next())
	}
	keeps(t, "opened", opened(t, d, "log"), math.MaxUint64, "a", "b", "c")
}

func TestNewMemory(t *testing.T) { // P7.3
	d := files.New(1000)
	j := start(t, d, "log", 5)
	all(t, j.Append("a", "b", "c"))
	l, again := j.Entries(), j.Entries()
	clear(l[:cap(l)])
	if !slices.Equal(again, []string{"a", "b", "c"}) {
		t.Error("two answers share memory")
	}
	keeps(t, "what Entries returned is not the journal's memory", j, 5, "a", "b", "c")
}

// none fails where a journal that is none does not answer so.
func none(t *testing.T, j *journal.Journal) {
	t.Helper()
	is(t, "Append", j.Append("a"), api.ErrNil)
	is(t, "Append of nothing", j.Append(), api.ErrNil)
	is(t, "Append of what is too long", j.Append(strings.Repeat("x", most+1)), api.ErrNil)
	is(t, "Force", j.Force(), api.ErrNil)
	if j.First() != 0 || j.Next() != 0 || len(j.Entries()) != 0 {
		t.Error("what is none has something")
	}
}

func TestNone(t *testing.T) { // P7.2, P7.3
	none(t, nil)
	none(t, &journal.Journal{})
	none(t, &journal.Journal{Dir: files.New(100)})
	d := files.New(1000)
	j := start(t, d, "log", 5)
	all(t, j.Append("a"))
	value := *j // no call returned a pointer to it
	none(t, &value)
	keeps(t, "the journal itself", j, 5, "a")
	open(t, "the journal itself", d, 1)
}

// A journal has what its directory has, beside its own calls.
func TestDirectory(t *testing.T) {
	d := files.New(1000)
	j := start(t, d, "log", 5)
	all(t, j.Append("a"))
	if !slices.Equal(j.Names(), []string{"log"}) || j.Room() != d.Room() || j.Pending() != 1 || j.Dir != d {
		t.Error(j.Names(), j.Room(), j.Pending())
	}
}

// Several journals in one directory, and other files, do not change each other.
func TestApart(t *testing.T) { // P7.1 to P7.3
	d := room(t, 10000)
	a, b := start(t, d, "a", 5), start(t, d, "b", 300)
	all(t, a.Append("1"), b.Append("2"), a.Append("3", "4"), b.Append("5"))
	keeps(t, "one", a, 5, "1", "3", "4")
	keeps(t, "another", b, 300, "2", "5")
	c := d.Copy() // what is done to one directory does not change the other
	k := opened(t, c, "a")
	all(t, k.Append("6"), a.Append("7"))
	keeps(t, "in a directory", a, 5, "1", "3", "4", "7")
	keeps(t, "in its copy", k, 5, "1", "3", "4", "6")
	keeps(t, "opened beside others", opened(t, d, "b"), 300, "2", "5")
}

// TestChapter has the chapter's examples.
func TestChapter(t *testing.T) { // P7.1 to P7.4
	d := files.New(1000)
	j := start(t, d, "log", 5)
	if all(t, j.Append("a", "b")); j.Next() != 7 {
		t.Error(j.Next())
	}
	keeps(t, "opened again", opened(t, d, "log"), 5, "a", "b")
	lost := d.Copy()
	lost.Crash(api.Fault{})
	keeps(t, "not forced", opened(t, lost, "log"), 5)
	all(t, j.Force())
	d.Crash(api.Fault{})
	keeps(t, "forced", opened(t, d, "log"), 5, "a", "b")
}

// begins reports whether l is at least so many of the first ones of want.
func begins(l, want []string, least int) bool {
	return len(l) >= least && len(l) <= len(want) && slices.Equal(l, want[:len(l)])
}

// faults calls do with failures of all kinds, for so many open operations that append at most so many bytes each.
func faults(pending, bytes int, do func(f api.Fault)) {
	for keep := -1; keep <= pending+1; keep++ {
		for lose := range uint64(1) << pending {
			for _, cut := range append(around(bytes), -1, 0, 1, math.MaxInt) {
				do(api.Fault{Keep: keep, Lose: lose, Cut: cut})
			}
		}
	}
}

// around returns lengths, a few for each of so many bytes.
func around(bytes int) []int {
	var l []int
	for n := 2; n <= bytes; n += 1 + n/12 {
		l = append(l, n)
	}
	return l
}

// Each failure leaves what was forced, and a beginning of the rest, of which an opening leaves whole entries.
func TestFailures(t *testing.T) { // P7.4
	for forced := range 4 {
		d := files.New(1000)
		j := start(t, d, "log", 5)
		var want []string
		least := 0
		for i, l := range [][]string{{"first", ""}, {"b", "second", "c"}, {"third", "of all"}, {"", "d"}} {
			if i == forced {
				all(t, j.Force())
				least = len(want)
			}
			all(t, j.Append(l...))
			want = append(want, l...)
		}
		faults(d.Pending(), 70, func(f api.Fault) {
			x := d.Copy()
			x.Crash(f)
			k := opened(t, x, "log")
			l := k.Entries()
			if !begins(l, want, least) || f.Lose == 0 && f.Keep >= d.Pending() && len(l) != len(want) {
				t.Fatalf("%d were forced, %v leaves %q", forced, f, l)
			}
			keeps(t, "behind a failure", k, 5, l...)
			has(t, "behind a failure", x, "log", written(5, l...))
			open(t, "behind a failure", x, 0)
			all(t, k.Append("then"))
			keeps(t, "it goes on", opened(t, x, "log"), 5, append(l, "then")...)
		})
	}
}

// A failure that cuts an Append off after so many bytes leaves as many entries as are whole by then.
func TestEachCut(t *testing.T) { // P7.4
	want := []string{"a", "", "second one", "c"}
	d := files.New(1000)
	j := start(t, d, "log", 300)
	all(t, j.Append(want...))
	for n := range len(frames(want...)) + 1 {
		left, whole := n, 0
		for whole < len(want) && left >= more+len(want[whole]) {
			left -= more + len(want[whole])
			whole++
		}
		for _, f := range []api.Fault{{Cut: n}, {Keep: 1, Lose: 1, Cut: n}} {
			x := d.Copy()
			x.Crash(f)
			if b, _ := x.Read("log"); len(b) != 22+n {
				t.Fatalf("%d of %d bytes are there", len(b), 22+n)
			}
			keeps(t, "cut", opened(t, x, "log"), 300, want[:whole]...)
		}
	}
}

// TestStartInProgress has failures between any two steps of a Start: what was there is left, with what of its entries was kept, or the new one.
func TestStartInProgress(t *testing.T) { // P7.4
	old := []string{"a", "forced", "b", "later"}
	for _, left := range []bool{false, true} {
		d := files.New(1000)
		j := start(t, d, "log", 300)
		all(t, j.Append(old[:2]...), j.Force())
		if left {
			all(t, d.Make("log~"), d.Append("log~", written(9, "x")))
		}
		all(t, j.Append(old[2:]...))
		for i, step := range journal.Starting(d, "log", 302) {
			all(t, step())
			faults(d.Pending(), 30, func(f api.Fault) {
				x := d.Copy()
				x.Crash(f)
				k := opened(t, x, "log")
				l := k.Entries()
				if !(k.First() == 300 && begins(l, old, 2)) && !(k.First() == 302 && len(l) == 0) {
					t.Fatalf("behind step %d %v leaves %d %q", i, f, k.First(), l)
				}
				open(t, "behind a failure", x, 0)
				keeps(t, "started then", start(t, x, "log", 9), 9)
				has(t, "started then", x, "log", written(9))
			})
		}
		has(t, "at the end", d, "log", written(302))
		open(t, "at the end", d, 0)
	}
}

// One that is the first of its name is there behind a failure, or it is not.
func TestFirstStartInProgress(t *testing.T) { // P7.4
	d := files.New(1000)
	for i, step := range journal.Starting(d, "log", 302) {
		all(t, step())
		faults(d.Pending(), 30, func(f api.Fault) {
			x := d.Copy()
			x.Crash(f)
			if k, e := journal.Open(x, "log"); e != api.ErrNone {
				is(t, "Open", e, api.OK)
				keeps(t, "one that is there", k, 302)
			}
			keeps(t, "started then", start(t, x, "log", 9), 9)
		})
		if _, e := journal.Open(d, "log"); (e == api.OK) != (i >= 5) {
			t.Errorf("behind step %d Open is %d", i, e)
		}
	}
}

// A Start that has no room stops behind its first operations; a failure then leaves the old one.
func TestStartWithoutRoomAndFailure(t *testing.T) { // P7.1, P7.4
	for _, n := range []int{0, 1, 20} {
		d := files.New(21 + 44 + n)
		j := start(t, d, "log", 5)
		all(t, j.Append("a"), j.Force(), j.Append("bcd"))
		starts(t, "without room", d, "log", api.ErrFull)
		open(t, "without room", d, 2)
		faults(2, 30, func(f api.Fault) {
			x := d.Copy()
			x.Crash(f)
			l := opened(t, x, "log").Entries()
			if !begins(l, []string{"a", "bcd"}, 1) {
				t.Fatalf("%v leaves %q", f, l)
			}
		})
		all(t, j.Force())
		keeps(t, "the old one goes on", opened(t, d, "log"), 5, "a", "bcd")
	}
}

// plan is a journal by the chapter's wording: its first number and its entries, of which so many are forced.
type plan struct {
	first  uint64
	l      []string
	forced int
}

// someEntries returns up to four entries, of up to forty bytes.
func someEntries(next func(int) int) []string {
	var l []string
	for range next(5) {
		l = append(l, strings.Repeat(string(rune('a'+next(26))), next(40)))
	}
	return l
}

func someFault(next func(int) int, pending int) api.Fault {
	f := api.Fault{Keep: next(pending+3) - 1, Cut: next(90) - 1}
	for range next(5) {
		f.Lose |= 1 << next(min(pending+2, 64))
	}
	return f
}

// TestWalk holds long walks, with failures, against the chapter's wording.
func TestWalk(t *testing.T) { // P7.1 to P7.4
	full, lost := 0, 0
	for seed := range uint64(30) {
		next := numbers(seed + 1)
		d := files.New(300 + next(3000))
		j, p := start(t, d, "log", seed), plan{first: seed}
		for range 400 {
			switch next(12) {
			default:
				l, pending := someEntries(next), d.Pending()
				want := api.OK
				if len(frames(l...)) > d.Room() {
					want = api.ErrFull
					full++
				} else {
					p.l = append(slices.Clip(p.l), l...)
					pending++
				}
				is(t, "Append", j.Append(l...), want)
				open(t, "Append", d, pending)
			case 0, 1:
				all(t, j.Force())
				p.forced = len(p.l)
			case 2:
				j = opened(t, d, "log")
			case 3:
				if d.Room() >= 40 && next(3) == 0 {
					j, p = start(t, d, "log", p.first+uint64(len(p.l))), plan{first: p.first + uint64(len(p.l))}
				}
			case 4, 5:
				d.Crash(someFault(next, d.Pending()))
				j = opened(t, d, "log")
				l := j.Entries()
				if !begins(l, p.l, p.forced) {
					t.Fatalf("a failure leaves %q of %q, of which %d were forced", l, p.l, p.forced)
				}
				lost += len(p.l) - len(l)
				p.l, p.forced = l, len(l)
				open(t, "behind a failure", d, 0)
			}
			keeps(t, "a walk", j, p.first, p.l...)
			has(t, "a walk", d, "log", written(p.first, p.l...))
		}
	}
	if full < 100 || lost < 100 {
		t.Errorf("the walks were full %d times, and lost %d entries", full, lost)
	}
}

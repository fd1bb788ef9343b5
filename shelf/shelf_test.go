package shelf_test

import (
	"maps"
	"math"
	"slices"
	"strings"
	"testing"

	"forebay/api"
	"forebay/files"
	"forebay/frame"
	"forebay/journal"
	"forebay/pack"
	"forebay/shelf"
)

const (
	most  = 1 << 18 // bytes of a frame's string, written out, so that a wrong limit does not agree with itself
	more  = 20      // bytes of a frame, beside its string
	count = 16      // files of a directory
	steps = 5       // of putting a snapshot
)

// packed returns a number, packed.
func packed(n uint64) string {
	return string(pack.Num(nil, n))
}

// framed returns the frames of all strings of l.
func framed(l ...string) string {
	b, _ := frame.Put(l...)
	return b
}

// baseFile returns the bytes of the file base, as the chapter describes them.
func baseFile(number uint64, text string) string {
	return framed(packed(number) + text)
}

// logFile returns the bytes of the file log, as the chapter describes them.
func logFile(first uint64, l ...string) string {
	return framed(packed(first)) + framed(l...)
}

// content returns a directory's files.
func content(d *files.Dir) map[string]string {
	m := map[string]string{}
	for _, n := range d.Names() {
		m[n], _ = d.Read(n)
	}
	return m
}

// has fails where a directory has other files than those of pairs, a name and bytes each.
func has(t *testing.T, what string, d *files.Dir, pairs ...string) {
	t.Helper()
	want := map[string]string{}
	for i := 0; i+1 < len(pairs); i += 2 {
		want[pairs[i]] = pairs[i+1]
	}
	if got := content(d); !maps.Equal(got, want) {
		t.Fatalf("%s: there is %.300q, not %.300q", what, got, want)
	}
}

// is fails where an error is another one.
func is(t *testing.T, what string, e, want api.Errno) {
	t.Helper()
	if e != want {
		t.Fatalf("%s is %d, not %d", what, e, want)
	}
}

// all fails where one of several calls returned an error.
func all(t *testing.T, l ...api.Errno) {
	t.Helper()
	for i, e := range l {
		if e != api.OK {
			t.Fatalf("call %d of %d is %d", i, len(l), e)
		}
	}
}

// pending fails where another number of operations is open.
func pending(t *testing.T, what string, d *files.Dir, want int) {
	t.Helper()
	if n := d.Pending(); n != want {
		t.Fatalf("%s: %d operations are open, not %d", what, n, want)
	}
}

// file makes a file of bytes.
func file(t *testing.T, d *files.Dir, name, b string) {
	t.Helper()
	all(t, d.Make(name), d.Append(name, b))
}

// laid returns a directory with the files base and log, of these bytes, and with nothing open; a file without bytes is not there.
func laid(t *testing.T, base, log string) *files.Dir {
	t.Helper()
	d := files.New(10000)
	if base != "" {
		file(t, d, "base", base)
	}
	if log != "" {
		file(t, d, "log", log)
	}
	all(t, d.Sync())
	return d
}

// opened returns what Open returns, which must be without an error.
func opened(t *testing.T, d *files.Dir) *shelf.Shelf {
	t.Helper()
	s, e := shelf.Open(d)
	is(t, "Open", e, api.OK)
	return s
}

// refuses fails where Open does not return an error, or changes anything.
func refuses(t *testing.T, what string, d *files.Dir, want api.Errno) {
	t.Helper()
	before := d.Copy()
	s, e := shelf.Open(d)
	is(t, "Open "+what, e, want)
	if s != nil {
		t.Fatalf("Open %s returns a shelf", what)
	}
	same(t, "Open "+what, d, before)
}

// keeps fails where a shelf has another base, or other entries.
func keeps(t *testing.T, what string, s *shelf.Shelf, number uint64, text string, want ...string) {
	t.Helper()
	n, x := s.Base()
	if l := s.Entries(); n != number || x != text || !slices.Equal(l, want) || s.Next() != number+uint64(len(want)) {
		t.Fatalf("%s: Base %d %.100q, Entries %.200q, Next %d, not %d, %.100q, %.200q", what, n, x, l, s.Next(), number, text, want)
	}
}

// part fails where a Part does not return that.
func part(t *testing.T, what string, s *shelf.Shelf, text string, n int, put bool, want api.Errno) {
	t.Helper()
	if got, e := s.Part(text, n); got != put || e != want {
		t.Fatalf("%s: Part of %d steps is %t, %d, not %t, %d", what, n, got, e, put, want)
	}
}

// same fails where a directory, or what a failure would leave of it, differs from another one.
func same(t *testing.T, what string, d, want *files.Dir) {
	t.Helper()
	pending(t, what, d, want.Pending())
	if d.Room() != want.Room() {
		t.Fatalf("%s: Room is %d, not %d", what, d.Room(), want.Room())
	}
	for keep := -1; keep <= want.Pending(); keep++ {
		x, y := d.Copy(), want.Copy()
		if keep >= 0 {
			x.Crash(api.Fault{Keep: keep, Cut: 1})
			y.Crash(api.Fault{Keep: keep, Cut: 1})
		}
		if got, want := content(x), content(y); !maps.Equal(got, want) {
			t.Fatalf("%s: there is %.200q, not %.200q", what, got, want)
		}
	}
}

// begins reports whether l is at least so many of the first ones of want.
func begins(l, want []string, least int) bool {
	return len(l) >= least && len(l) <= len(want) && slices.Equal(l, want[:len(l)])
}

// faults calls do with failures of all kinds, for so many open operations that append at most so many bytes each.
func faults(pending, bytes int, do func(f api.Fault)) {
	for keep := -1; keep <= pending+1; keep++ {
		for lose := range uint64(1) << pending {
			for cut := -1; cut <= bytes+1; cut += 1 + cut/8 {
				do(api.Fault{Keep: keep, Lose: lose, Cut: cut})
			}
			do(api.Fault{Keep: keep, Lose: lose, Cut: math.MaxInt})
		}
	}
}

// numbers returns a function that answers other numbers below most each time, the same ones in each run.
func numbers(seed uint64) func(most int) int {
	return func(most int) int {
		seed = seed*6364136223846793005 + 1442695040888963407
		return int(seed >> 33 % uint64(most))
	}
}

func TestOpenNew(t *testing.T) { // P9.1
	d := files.New(1000)
	s := opened(t, d)
	keeps(t, "new", s, 0, "")
	has(t, "new", d, "log", framed("\x00"))
	pending(t, "new", d, 0)
	file(t, d, "other", "xy")
	d.Crash(api.Fault{Lose: math.MaxUint64})
	has(t, "new, and a failure", d, "log", framed("\x00"))
	keeps(t, "opened again", opened(t, d), 0, "")
}

// Where there is a base, and no journal, one is started from the base's number on. What an interrupted Start has left is removed; other files stay.
func TestOpenStarts(t *testing.T) { // P9.1
	for _, n := range []uint64{0, 1, 127, 128, 300, 1 << 32, math.MaxUint64 - 1, math.MaxUint64} {
		for _, text := range []string{"", "x", "\x00", packed(n), strings.Repeat("\xff", 300)} {
			d := laid(t, baseFile(n, text), "")
			file(t, d, "log~", logFile(n+1, "left"))
			file(t, d, "base~", "left")
			file(t, d, "log~~", "other")
			keeps(t, "started", opened(t, d), n, text)
			has(t, "started", d, "base", baseFile(n, text), "log", logFile(n), "base~", "left", "log~~", "other")
			pending(t, "started", d, 0)
		}
	}
}

// shelves calls do with files of shelves, each with what is there: where a journal begins with the base's number, and where it has entries before it.
func shelves(do func(base, log string, number uint64, text string, l []string)) {
	entries := []string{"a", "", "bc", "\x00\xff", "a"}
	for _, first := range []uint64{0, 1, 5, 126, 300, 1 << 40, math.MaxUint64 - 6} {
		for n := range len(entries) + 1 {
			for older := range n + 1 {
				for _, text := range []string{"", "x", "\x80", "\x05\x05", strings.Repeat("y", 200)} {
					number := first + uint64(older)
					do(baseFile(number, text), logFile(first, entries[:n]...), number, text, entries[older:n])
				}
			}
		}
	}
}

func TestOpen(t *testing.T) { // P9.1, P9.5
	shelves(func(base, log string, number uint64, text string, l []string) {
		d := laid(t, base, log)
		all(t, d.Append("log", "")) // something that is open
		before := d.Copy()
		for range 2 {
			keeps(t, "whoever wrote it", opened(t, d), number, text, l...)
			same(t, "whoever wrote it", d, before)
		}
	})
	d := laid(t, "", logFile(0, "a", "b"))
	keeps(t, "no base yet", opened(t, d), 0, "", "a", "b")
	has(t, "no base yet", d, "log", logFile(0, "a", "b"))
}

// What is after a journal's frames is cut off, and that is synced.
func TestOpenCuts(t *testing.T) { // P9.1, P9.5
	for _, behind := range []string{"x", strings.Repeat("\x00", 50), framed("new")[:22], framed("new")[1:]} {
		shelves(func(base, log string, number uint64, text string, l []string) {
			d := laid(t, base, log+behind)
			s := opened(t, d)
			for range 2 {
				keeps(t, "cut off", s, number, text, l...)
				has(t, "cut off", d, "base", base, "log", log)
				pending(t, "cut off", d, 0)
				s = opened(t, d)
			}
			all(t, s.Append("new"))
			keeps(t, "appended where it was cut", opened(t, d), number, text, append(slices.Clone(l), "new")...)
		})
	}
}

func TestOpenInNoDirectory(t *testing.T) { // P9.1
	for _, d := range []*files.Dir{nil, {}} {
		if s, e := shelf.Open(d); s != nil || e != api.ErrNil {
			t.Error(s, e)
		}
	}
}

// Files that are not those of a shelf are left as they are, also what is after a journal's frames.
func TestOpenNoShelf(t *testing.T) { // P9.1
	good := baseFile(5, "abc")
	ff := strings.Repeat("\xff", 9)
	for _, base := range []string{
		"x", "\x05abc", good[1:], good[:len(good)-1], good + "x", good + good, strings.Repeat("\x00", 30), framed(strings.Repeat("x", most))[1:], // no snapshot
		framed(""), framed("\x80"), framed("\x85\x00abc"), framed("\x80\x00"), framed(ff), framed(ff + "\x02abc"), framed(ff + "\x81\x00"), // no number
	} {
		for _, log := range []string{"", "x", logFile(5), logFile(0, "a", "b", "c", "d", "e"), logFile(5, "a") + "rest"} {
			d := files.New(2 * most)
			file(t, d, "base", base)
			if log != "" {
				file(t, d, "log", log)
			}
			refuses(t, "of no base", d, api.ErrShelf)
		}
	}
	for _, log := range []string{"x", logFile(5)[1:], logFile(5, "a")[:20], strings.Repeat("\x00", 30), framed(""), framed("\x85\x00"), framed("\x05\x05"), framed("abc"), framed("", packed(5))} {
		refuses(t, "of no journal", laid(t, good, log), api.ErrShelf)
		refuses(t, "of no journal, without a base", laid(t, "", log), api.ErrShelf)
	}
	empty := laid(t, good, "")
	all(t, empty.Make("log"))
	refuses(t, "of an empty journal", empty, api.ErrShelf)
	empty = laid(t, "", logFile(0))
	all(t, empty.Make("base"))
	refuses(t, "of an empty base", empty, api.ErrShelf)
}

// A journal whose first number is above the base's, or whose Next is below it, is another one's.
func TestOpenApart(t *testing.T) { // P9.1
	for _, c := range []struct {
		number, first uint64
		l             []string
		good          bool
	}{
		{5, 6, nil, false}, {5, 6, []string{"a"}, false}, {5, 300, nil, false}, {5, math.MaxUint64, nil, false}, {0, 1, []string{"a", "b"}, false},
		{math.MaxUint64 - 1, math.MaxUint64, nil, false},
		{5, 4, nil, false}, {5, 3, []string{"a"}, false}, {5, 0, []string{"a", "b", "c", "d"}, false}, {math.MaxUint64, 0, []string{"a"}, false}, {math.MaxUint64, math.MaxUint64 - 1, nil, false}, {1, 0, nil, false},
		{5, 5, nil, true}, {5, 5, []string{"a"}, true}, {5, 4, []string{"a"}, true}, {5, 0, []string{"a", "b", "c", "d", "e"}, true}, {math.MaxUint64, math.MaxUint64, nil, true},
	} {
		for _, rest := range []string{"", "rest"} {
			d := laid(t, baseFile(c.number, "abc"), logFile(c.first, c.l...)+rest)
			if !c.good {
				refuses(t, "of two that do not belong together", d, api.ErrShelf)
				continue
			}
			keeps(t, "two that belong together", opened(t, d), c.number, "abc", c.l[min(c.number-c.first, uint64(len(c.l))):]...)
		}
	}
	for _, first := range []uint64{1, 5, math.MaxUint64} {
		refuses(t, "of a journal without its base", laid(t, "", logFile(first, "a", "b")), api.ErrShelf)
	}
}

// Without room for a journal nothing is left of it; where there is one, no room is needed.
func TestOpenWithoutRoom(t *testing.T) { // P9.1
	for n := range more + 2 {
		d := files.New(n + 5)
		file(t, d, "other", "01234")
		if n < more+1 {
			refuses(t, "without room", d, api.ErrFull)
			continue
		}
		keeps(t, "room enough", opened(t, d), 0, "")
		has(t, "room enough", d, "log", logFile(0), "other", "01234")
		if d.Room() != 0 {
			t.Fatal(d.Room())
		}
		keeps(t, "without room, with a journal", opened(t, d), 0, "")
	}
	d := files.New(1000)
	for i := range count {
		all(t, d.Make(string(rune('A'+i))))
	}
	refuses(t, "among all files", d, api.ErrFull)
	all(t, d.Rename("A", "log~"))
	keeps(t, "where the file with ~ is one of them", opened(t, d), 0, "")
	d = files.New(43)
	file(t, d, "base", baseFile(300, "x"))
	file(t, d, "log~", "")
	refuses(t, "without room for a greater number", d, api.ErrFull)
	all(t, d.Cut("base", 0), d.Append("base", "x"))
	refuses(t, "of what is no base, without room", d, api.ErrShelf)
}

// Append and Force do the same as layer 7's: to the file, and to the directory.
func TestAppendAndForce(t *testing.T) { // P9.2
	long, tooLong := strings.Repeat("x", most), strings.Repeat("x", most+1)
	d, want := files.New(2*most), files.New(2*most)
	s := opened(t, d)
	j, e := journal.Start(want, "log", 0)
	is(t, "Start", e, api.OK)
	for _, l := range [][]string{{"a"}, {"b", "c"}, {}, nil, {""}, {"\x00\xff"}, {tooLong}, {"d", tooLong}, {long}, {long}, {"e", long}, {"f"}, slices.Repeat([]string{"x"}, 300)} {
		is(t, "Append", s.Append(l...), j.Append(l...))
		keeps(t, "appended", s, 0, "", j.Entries()...)
		same(t, "appended", d, want)
	}
	is(t, "Append of too long ones, without room", s.Append(long, tooLong), api.ErrLong)
	is(t, "Append without room", s.Append(long), api.ErrFull)
	same(t, "behind errors", d, want)
	all(t, s.Force(), j.Force())
	pending(t, "forced", d, 0)
	all(t, s.Append("g"), j.Append("g"))
	same(t, "forced, and appended to", d, want)
	d.Crash(api.Fault{})
	keeps(t, "behind a failure", opened(t, d), 0, "", j.Entries()[:j.Next()-1]...)
}

func TestSave(t *testing.T) { // P9.3
	d := files.New(10000)
	file(t, d, "other", "xy")
	s := opened(t, d)
	next := uint64(0)
	for _, text := range []string{"", "abc", "", "\x00\xff", "\x05", packed(300), baseFile(3, "x"), strings.Repeat("y", 1000), "short"} {
		for _, l := range [][]string{nil, {"a", "b"}, {""}, slices.Repeat([]string{"x"}, 100)} {
			all(t, s.Append(l...), d.Append("other", ""))
			next += uint64(len(l))
			is(t, "Save", s.Save(text), api.OK)
			keeps(t, "saved", s, next, text)
			has(t, "saved", d, "base", baseFile(next, text), "log", logFile(next), "other", "xy")
			pending(t, "saved", d, 0)
			x := d.Copy()
			x.Crash(api.Fault{Lose: math.MaxUint64})
			keeps(t, "saved, behind a failure", opened(t, x), next, text)
			keeps(t, "saved, and opened", opened(t, d), next, text)
			all(t, s.Append("c", "d"), s.Force())
			keeps(t, "it goes on", s, next, text, "c", "d")
			next += 2
		}
	}
	if next < 128 {
		t.Error("no number had two bytes")
	}
}

// What an interrupted Save has left, or somebody else, under a name with ~, is removed.
func TestSaveRemoves(t *testing.T) { // P9.3
	d := laid(t, baseFile(5, "abc"), logFile(3, "a", "b", "c"))
	s := opened(t, d)
	for _, left := range []string{"", "x", logFile(9, "y"), baseFile(9, "z"), strings.Repeat("x", 1000)} {
		file(t, d, "base~", left)
		file(t, d, "log~", left)
		file(t, d, "log~~", left)
		all(t, s.Save("de"))
		keeps(t, "saved", s, 6, "de")
		has(t, "saved", d, "base", baseFile(6, "de"), "log", logFile(6), "log~~", left)
		all(t, d.Remove("log~~"))
	}
}

// With its number a string has at most so many bytes.
func TestSaveTooLong(t *testing.T) { // P9.3
	for _, n := range []uint64{0, 127, 128, 16383, 16384, math.MaxUint64} {
		d := files.New(4 * most)
		file(t, d, "base", baseFile(n, "abc"))
		s := opened(t, d)
		all(t, d.Append("base", "")) // something that is open
		before := d.Copy()
		longest := most - len(packed(n))
		for _, size := range []int{longest + 1, most, most + 1, 5 * most} {
			is(t, "Save of what is too long", s.Save(strings.Repeat("x", size)), api.ErrLong)
			for i := range steps + 2 {
				part(t, "of what is too long", s, strings.Repeat("x", size), i, false, api.ErrLong)
			}
		}
		same(t, "behind errors", d, before)
		keeps(t, "behind errors", s, n, "abc")
		text := strings.Repeat("x", longest)
		is(t, "Save of the longest", s.Save(text), api.OK)
		keeps(t, "the longest", opened(t, d), n, text)
		keeps(t, "the longest", s, n, text)
	}
}

// Without room for the snapshot nothing is changed at all: what was not forced is not forced either.
func TestSaveWithoutRoom(t *testing.T) { // P9.3
	text := strings.Repeat("x", 30)
	need := len(baseFile(8, text))
	for n := range need + 1 {
		d := files.New(len(baseFile(5, "abc")+logFile(5, "a", "b", "c")) + n)
		file(t, d, "base", baseFile(5, "abc"))
		s := opened(t, d)
		all(t, s.Append("a", "b"), s.Force(), s.Append("c"))
		if n == need {
			is(t, "Save with room enough", s.Save(text), api.OK)
			keeps(t, "room enough", s, 8, text)
			continue
		}
		before := d.Copy()
		is(t, "Save without room", s.Save(text), api.ErrFull)
		for i := 1; i <= steps+1; i++ {
			part(t, "without room", s, text, i, false, api.ErrFull)
		}
		same(t, "without room", d, before)
		keeps(t, "without room", s, 5, "abc", "a", "b", "c")
		part(t, "of no steps", s, text, 0, false, api.OK)
		pending(t, "forced", d, 0)
		keeps(t, "forced", opened(t, d), 5, "abc", "a", "b", "c")
	}
}

// Where there is room for the snapshot only, the string is saved, and the journal keeps older entries; it goes on like that.
func TestSaveWithoutRoomForJournal(t *testing.T) { // P9.3
	text := strings.Repeat("x", 30)
	for left := range 22 {
		d := files.New(len(logFile(0, "a", "b")+baseFile(2, text)) + left)
		s := opened(t, d)
		all(t, s.Append("a"), s.Force(), s.Append("b"))
		if left == 21 { // for the first frame of another one
			is(t, "Save with room for both", s.Save(text), api.OK)
			has(t, "room for both", d, "base", baseFile(2, text), "log", logFile(2))
			continue
		}
		is(t, "Save with room for the snapshot only", s.Save(text), api.ErrFull)
		for range 2 {
			keeps(t, "the string is saved", s, 2, text)
			has(t, "older entries take their room", d, "base", baseFile(2, text), "log", logFile(0, "a", "b"))
			pending(t, "the string is saved", d, 0)
			d.Crash(api.Fault{})
			s = opened(t, d)
		}
		if left < more {
			is(t, "Append", s.Append(""), api.ErrFull)
			continue
		}
		all(t, s.Append(""), s.Force())
		keeps(t, "it goes on", s, 2, text, "")
		is(t, "Save without any room", s.Save("y"), api.ErrFull)
		keeps(t, "as before", s, 2, text, "")
		keeps(t, "as before, opened", opened(t, d), 2, text, "")
	}
}

func TestSaveWithoutFiles(t *testing.T) { // P9.3
	d := files.New(10000)
	s := opened(t, d)
	all(t, s.Append("a", "b"))
	for i := range count - 1 {
		all(t, d.Make(string(rune('A'+i))))
	}
	before := d.Copy()
	is(t, "Save among all files", s.Save("abc"), api.ErrFull)
	same(t, "among all files", d, before)
	keeps(t, "among all files", s, 0, "", "a", "b")
	all(t, d.Remove("A"))
	is(t, "Save where a file can be made", s.Save("abc"), api.ErrFull) // that was the base
	keeps(t, "where a file can be made", s, 2, "abc")
	if b, _ := d.Read("log"); b != logFile(0, "a", "b") || len(d.Names()) != count || d.Pending() != 0 {
		t.Fatalf("%q, %q, %d", b, d.Names(), d.Pending())
	}
	all(t, s.Append("c", "d"))
	keeps(t, "it goes on", s, 2, "abc", "c", "d")
	keeps(t, "it goes on, opened", opened(t, d), 2, "abc", "c", "d")
	is(t, "Save among all files, again", s.Save("de"), api.ErrFull)
	keeps(t, "as before", s, 2, "abc", "c", "d")
	all(t, d.Remove("B"), s.Save("de"))
	keeps(t, "saved at last", s, 4, "de")
	if b, _ := d.Read("log"); b != logFile(4) {
		t.Fatalf("%q", b)
	}
}

// TestPart has what is there behind each step: the journal is forced, and the shelf has its base, and its entries, until it is opened again.
func TestPart(t *testing.T) { // P9.3
	abc, de, log := baseFile(5, "abc"), baseFile(7, "de"), logFile(4, "a", "b", "c")
	for _, left := range []bool{false, true} { // something under the name with ~
		before := laid(t, abc, logFile(4, "a"))
		s := opened(t, before)
		all(t, s.Append("b"))
		pairs, operations := []string{"base", abc, "log", log}, 2
		if left {
			file(t, before, "base~", "left")
			pairs, operations = append(pairs, "base~", "left"), 3
		}
		all(t, s.Append("c"))
		for i, c := range []struct {
			pending int
			put     bool
			pairs   []string
		}{
			{0, false, pairs},
			{operations, false, []string{"base", abc, "log", log, "base~", de}},
			{0, false, []string{"base", abc, "log", log, "base~", de}},
			{1, false, []string{"base", de, "log", log}},
			{0, false, []string{"base", de, "log", log}},
			{0, true, []string{"base", de, "log", log}},
			{0, true, []string{"base", de, "log", log}},
		} {
			d := before.Copy()
			s := opened(t, d)
			part(t, "each step", s, "de", i, c.put, api.OK)
			has(t, "each step", d, c.pairs...)
			pending(t, "each step", d, c.pending)
			keeps(t, "each step", s, 5, "abc", "b", "c")
			all(t, s.Append("then"))
			keeps(t, "appended to", s, 5, "abc", "b", "c", "then")
			x := d.Copy()
			x.Crash(api.Fault{Keep: math.MaxInt})
			for _, y := range []*files.Dir{d.Copy(), x} {
				if i < 3 {
					keeps(t, "opened", opened(t, y), 5, "abc", "b", "c", "then")
				} else {
					keeps(t, "opened", opened(t, y), 7, "de", "then")
				}
			}
			all(t, s.Save("fgh"))
			keeps(t, "saved", s, 8, "fgh")
			has(t, "saved", d, "base", baseFile(8, "fgh"), "log", logFile(8))
		}
	}
	for _, n := range []int{steps, steps + 1, 1000, math.MaxInt} {
		part(t, "all steps", opened(t, files.New(1000)), "de", n, true, api.OK)
	}
}

func TestPartWrong(t *testing.T) { // P9.3
	d := files.New(100)
	s := opened(t, d)
	all(t, s.Append("a"))
	before := d.Copy()
	for _, text := range []string{"", "abc", strings.Repeat("x", 200), strings.Repeat("x", most+1)} {
		for _, n := range []int{-1, -2, math.MinInt} {
			part(t, "of steps below 0", s, text, n, false, api.ErrArg)
		}
	}
	same(t, "behind errors", d, before)
	keeps(t, "behind errors", s, 0, "", "a")
}

// Each failure leaves what was forced, and a beginning of the rest.
func TestFailures(t *testing.T) { // P9.4, P9.5
	for _, older := range []int{0, 2} { // entries that the journal has before the base's number
		for forced := range 4 {
			d := laid(t, baseFile(300, "abc"), logFile(uint64(300-older), slices.Repeat([]string{"old"}, older)...))
			s := opened(t, d)
			var want []string
			least := 0
			for i, l := range [][]string{{"first", ""}, {"b", "second", "c"}, {"third"}} {
				if i == forced {
					all(t, s.Force())
					least = len(want)
				}
				all(t, s.Append(l...))
				want = append(want, l...)
			}
			faults(d.Pending(), 70, func(f api.Fault) {
				x := d.Copy()
				x.Crash(f)
				s := opened(t, x)
				l := s.Entries()
				if !begins(l, want, least) || f.Lose == 0 && f.Keep >= d.Pending() && len(l) != len(want) {
					t.Fatalf("%d were forced, %v leaves %q", forced, f, l)
				}
				keeps(t, "behind a failure", s, 300, "abc", l...)
				pending(t, "behind a failure", x, 0)
				once := x.Copy()
				keeps(t, "opened twice", opened(t, x), 300, "abc", l...)
				same(t, "opened twice", x, once)
				all(t, s.Append("then"))
				keeps(t, "it goes on", opened(t, x), 300, "abc", append(l, "then")...)
			})
		}
	}
}

// restarting returns the steps in which the journal is started at the end of a Save, as layer 7 describes them.
func restarting(d *files.Dir, first uint64) []func() api.Errno {
	return []func() api.Errno{
		func() api.Errno {
			if e := d.Remove("log~"); e != api.ErrNone {
				return e
			}
			return api.OK
		},
		func() api.Errno { return d.Make("log~") },
		func() api.Errno { return d.Append("log~", logFile(first)) },
		d.Sync,
		func() api.Errno { return d.Rename("log~", "log") },
		d.Sync,
	}
}

// survives fails where some failure leaves neither the base 5, old with all entries, if that can be, nor the base 9, new without any, if that can be.
func survives(t *testing.T, what string, d *files.Dir, mayOld, mayNew bool) {
	t.Helper()
	old, new := false, false
	faults(d.Pending(), 40, func(f api.Fault) {
		x := d.Copy()
		x.Crash(f)
		s := opened(t, x)
		pending(t, what, x, 0)
		number, text := s.Base()
		if number == 9 {
			keeps(t, what, s, 9, "new")
			new = true
		} else {
			keeps(t, what, s, 5, "old", "a", "forced", "b", "later")
			old = true
		}
		once := x.Copy()
		keeps(t, "opened twice", opened(t, x), number, text, s.Entries()...)
		same(t, "opened twice", x, once)
		all(t, s.Append("then"), s.Save("again"))
		keeps(t, "saved then", opened(t, x), 10, "again")
	})
	if old != mayOld || new != mayNew {
		t.Fatalf("%s: the old base was there: %t, the new one: %t", what, old, new)
	}
}

// TestSaveInProgress has failures behind each step of a Save.
func TestSaveInProgress(t *testing.T) { // P9.4, P9.5
	for _, log := range []string{logFile(5, "a", "forced"), logFile(3, "older", "one", "a", "forced")} {
		for _, left := range []bool{false, true} { // something under the names with ~
			d := laid(t, baseFile(5, "old"), log)
			if left {
				file(t, d, "base~", baseFile(3, "x"))
				file(t, d, "log~", logFile(3))
			}
			s := opened(t, d)
			all(t, s.Append("b"), s.Append("later"))
			for i := range steps + 1 {
				x := d.Copy()
				part(t, "in progress", opened(t, x), "new", i, i == steps, api.OK)
				survives(t, "in progress", x, i < 4, i > 2)
			}
			part(t, "in progress", s, "new", steps, true, api.OK)
			for _, step := range restarting(d, 9) {
				all(t, step())
				survives(t, "a journal is started", d, false, true)
			}
			keeps(t, "saved", opened(t, d), 9, "new")
			x := laid(t, baseFile(5, "old"), logFile(5, "a", "forced", "b", "later"))
			all(t, opened(t, x).Save("new"))
			has(t, "it is like a Save", d, "base", baseFile(9, "new"), "log", logFile(9))
			has(t, "a Save", x, "base", baseFile(9, "new"), "log", logFile(9))
		}
	}
}

// The journal of a new shelf is there behind a failure, or it is started then.
func TestFirstOpenInProgress(t *testing.T) { // P9.4
	d := files.New(1000)
	for _, step := range restarting(d, 0) {
		all(t, step())
		faults(d.Pending(), 30, func(f api.Fault) {
			x := d.Copy()
			x.Crash(f)
			keeps(t, "behind a failure", opened(t, x), 0, "")
			has(t, "behind a failure", x, "log", logFile(0))
			pending(t, "behind a failure", x, 0)
		})
	}
}

// none fails where a shelf that is none does not answer so.
func none(t *testing.T, s *shelf.Shelf) {
	t.Helper()
	tooLong := strings.Repeat("x", most+1)
	for _, text := range []string{"", "a", tooLong} {
		is(t, "Append", s.Append(text), api.ErrNil)
		is(t, "Save", s.Save(text), api.ErrNil)
		for n := range steps + 2 {
			part(t, "of none", s, text, n-1, false, api.ErrNil)
		}
	}
	is(t, "Append of nothing", s.Append(), api.ErrNil)
	is(t, "Force", s.Force(), api.ErrNil)
	n, text := s.Base()
	if n != 0 || text != "" || s.Next() != 0 || len(s.Entries()) != 0 {
		t.Error("what is none has something")
	}
}

func TestNone(t *testing.T) { // P9.1 to P9.3
	none(t, nil)
	none(t, &shelf.Shelf{})
	d := laid(t, baseFile(5, "abc"), logFile(5, "a"))
	j, e := journal.Open(d, "log")
	is(t, "Open", e, api.OK)
	none(t, &shelf.Shelf{Journal: j})
	s := opened(t, d)
	value := *s // no call returned a pointer to it
	none(t, &value)
	keeps(t, "the shelf itself", s, 5, "abc", "a")
	pending(t, "the shelf itself", d, 0)
}

// Somebody took away the files, or a failure did, and nobody opened the shelf again: its calls end all the same.
func TestWithoutFiles(t *testing.T) { // R1
	d := laid(t, baseFile(5, "abc"), logFile(3, "a", "b", "c"))
	s := opened(t, d)
	all(t, d.Cut("log", len(logFile(3, "a"))))
	if l := s.Entries(); len(l) != 0 {
		t.Errorf("%q", l)
	}
	all(t, d.Remove("log"), d.Remove("base"))
	if l := s.Entries(); len(l) != 0 {
		t.Errorf("%q", l)
	}
	is(t, "Append", s.Append("d"), api.ErrNone)
	all(t, s.Force(), s.Save("de"))
	keeps(t, "saved", s, 6, "de")
	d.Crash(api.Fault{})
	keeps(t, "saved", opened(t, d), 6, "de")
}

func TestMemory(t *testing.T) { // P9.1, P9.2
	d := files.New(1000)
	s := opened(t, d)
	given := []string{"a", "b", "behind"}
	all(t, s.Append(given[:2]...))
	if !slices.Equal(given, []string{"a", "b", "behind"}) {
		t.Errorf("the list became %q", given)
	}
	given[0], given[1] = "x", "y"
	l, again := s.Entries(), s.Entries()
	clear(l[:cap(l)])
	if !slices.Equal(again, []string{"a", "b"}) {
		t.Error("two answers share memory")
	}
	keeps(t, "neither the list nor an answer is the shelf's memory", s, 0, "", "a", "b")
}

// A shelf has what its journal has, beside its own calls.
func TestJournal(t *testing.T) {
	d := laid(t, baseFile(5, "abc"), logFile(3, "a", "b", "c"))
	if s := opened(t, d); s.First() != 3 || s.Room() != d.Room() || !slices.Equal(s.Names(), []string{"base", "log"}) {
		t.Error(s.First(), s.Room(), s.Names())
	}
}

// TestChapter has the chapter's examples.
func TestChapter(t *testing.T) { // P9.1 to P9.4
	d := files.New(1000)
	s := opened(t, d)
	all(t, s.Append("a", "b"), s.Save("x"), s.Append("c"))
	keeps(t, "saved, and appended to", s, 2, "x", "c")
	if s.Next() != 3 {
		t.Error(s.Next())
	}
	part(t, "of three steps", s, "y", 3, false, api.OK)
	d.Crash(api.Fault{Keep: d.Pending()})
	keeps(t, "behind a failure that keeps all", opened(t, d), 3, "y")
}

// base is one that a file can have.
type base struct {
	number uint64
	text   string
}

// model is a shelf by the chapter's wording: the base it has, the one in its file, the one that is safe there; its journal's first number, entries, and how many of them are forced.
type model struct {
	base, now, safe base
	first           uint64
	l               []string
	forced          int
}

func (m *model) next() base { return base{number: m.first + uint64(len(m.l))} }

func (m *model) entries() []string { return m.l[m.base.number-m.first:] }

// sync makes everything safe.
func (m *model) sync() { m.safe, m.forced = m.now, len(m.l) }

// part does the steps of a Part.
func (m *model) part(b base, n int) {
	m.sync()
	if n >= 3 {
		m.now = b
	}
	if n >= 4 {
		m.safe = b
	}
}

// fits reports whether there is room for those bytes, in place of what a directory's files with these names have.
func fits(d *files.Dir, b string, names ...string) bool {
	x := d.Copy()
	for _, name := range names {
		x.Remove(name)
	}
	return len(b) <= x.Room()
}

// saves fails where a Save does something else than the chapter says, and returns the name of the file for which there was no room.
func (m *model) saves(t *testing.T, d *files.Dir, s *shelf.Shelf, text string) string {
	b := m.next()
	b.text = text
	before := d.Copy()
	e := s.Save(text)
	if !fits(before, baseFile(b.number, text), "base~") {
		is(t, "Save without room", e, api.ErrFull)
		same(t, "Save without room", d, before)
		return "base"
	}
	m.part(b, steps)
	m.base = b
	if !fits(before, baseFile(b.number, text)+logFile(b.number), "base~", "base") {
		is(t, "Save without room for the journal", e, api.ErrFull)
		return "log"
	}
	is(t, "Save", e, api.OK)
	m.first, m.l, m.forced = b.number, nil, 0
	return ""
}

// crashes fails where a failure leaves what the chapter does not let it leave.
func (m *model) crashes(t *testing.T, d *files.Dir, f api.Fault) *shelf.Shelf {
	d.Crash(f)
	s := opened(t, d)
	pending(t, "behind a failure", d, 0)
	number, text := s.Base()
	b := base{number, text}
	if b != m.now && b != m.safe {
		t.Fatalf("a failure leaves the base %v, neither %v nor %v", b, m.now, m.safe)
	}
	from := int(number - m.first)
	l := s.Entries()
	if !begins(l, m.l[from:], max(m.forced-from, 0)) {
		t.Fatalf("a failure leaves the entries %q of %q, of which %d were forced", l, m.l, m.forced)
	}
	m.base, m.now, m.l = b, b, m.l[:from+len(l)]
	m.sync()
	return s
}

func someFault(next func(int) int, pending int) api.Fault {
	f := api.Fault{Keep: next(pending+3) - 1, Cut: next(90) - 1}
	for range next(5) {
		f.Lose |= 1 << next(min(pending+2, 64))
	}
	return f
}

// TestWalk holds long walks, with Saves that are interrupted, and failures, against the chapter's wording.
func TestWalk(t *testing.T) { // P9.1 to P9.5
	saves, lost := map[string]int{}, 0
	for seed := range uint64(1500) { // so many short ones, because the journal seldom lacks room once there is a base, which makes some
		next := numbers(seed + 1)
		d, m := files.New(100+next(300)), &model{}
		if seed%3 == 0 { // so that numbers get another byte
			b := base{number: 100 + uint64(next(30)), text: "abc"}
			file(t, d, "base", baseFile(b.number, b.text))
			m = &model{base: b, now: b, safe: b, first: b.number}
		}
		s := opened(t, d)
		for range 10 + next(50) {
			text := strings.Repeat(string(rune('a'+next(26))), next(60))
			switch next(10) {
			default:
				l := slices.Repeat([]string{text}, next(3))
				want := api.OK
				if len(framed(l...)) > d.Room() {
					want = api.ErrFull
				} else {
					m.l = append(m.l, l...)
				}
				is(t, "Append", s.Append(l...), want)
			case 0, 1:
				all(t, s.Force())
				m.sync()
			case 2, 3:
				saves[m.saves(t, d, s, text)]++
			case 4:
				b, n := m.next(), next(7)
				b.text = text
				if n > 0 && !fits(d, baseFile(b.number, text), "base~") {
					part(t, "a walk", s, text, n, false, api.ErrFull)
					break
				}
				part(t, "a walk", s, text, n, n >= steps, api.OK)
				m.part(b, n)
			case 5, 6:
				before := len(m.l)
				s = m.crashes(t, d, someFault(next, d.Pending()))
				lost += before - len(m.l)
			}
			keeps(t, "a walk", s, m.base.number, m.base.text, m.entries()...)
		}
	}
	if min(saves[""], saves["base"], saves["log"], lost) < 20 {
		t.Errorf("the walks saved, or had no room, %v times, and lost %d entries", saves, lost)
	}
}

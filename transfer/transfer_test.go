package transfer_test

import (
	"math"
	"slices"
	"testing"

	"forebay/api"
	"forebay/lanes"
	"forebay/transfer"
)

const (
	top    = 1 << 40 // these are written out, so that a wrong limit does not agree with itself
	maxJob = 1 << 30
	many   = 200 // moves of a list
	fails  = 20  // of a move
	least  = math.MinInt64
	most   = math.MaxInt64
)

// numbers returns a function that answers other numbers below a bound each time, the same ones in each run.
func numbers() func(bound int64) int64 {
	state := uint64(1)
	return func(bound int64) int64 {
		state = state*6364136223846793005 + 1442695040888963407
		return int64(state >> 20 % uint64(bound))
	}
}

// row returns n moves of the jobs 1, 2, 3, ..
func row(n int) []api.Move {
	var l []api.Move
	for i := range n {
		l = append(l, api.Move{Job: int64(i) + 1, Size: 9, Done: 4, Tries: 2, Wait: 3})
	}
	return l
}

// some returns a list of up to n moves with small numbers.
func some(next func(int64) int64, n int64) []api.Move {
	var l []api.Move
	job := int64(0)
	for range next(n + 1) {
		job += next(4) + 1
		size := next(30) + 1
		m := api.Move{Job: job, Out: next(2) == 1, Size: size, Done: next(size), Tries: next(4)}
		if next(3) == 0 {
			m.Wait = next(4)
		}
		l = append(l, m)
	}
	return l
}

// asWords is a tick, step by step in the chapter's words.
func asWords(t *testing.T, l []api.Move, x api.Rates, faults []int64) ([]api.Move, []api.Moved) {
	t.Helper()
	moves := slices.Clone(l)
	waited, givenUp := map[int]bool{}, map[int]bool{}
	var going []int
	var wants []int64
	for i, m := range moves {
		waited[i] = m.Wait > 0
		if !waited[i] {
			going, wants = append(going, i), append(wants, m.Size-m.Done)
		}
	}
	shares, e := lanes.Split(x.Band, wants)
	if e != api.OK {
		t.Fatal(e)
	}
	for k, i := range going {
		moves[i].Done += shares[k]
	}
	for _, i := range going {
		m := &moves[i]
		if !slices.Contains(faults, m.Job) {
			continue
		}
		m.Done = 0
		m.Tries++
		if m.Tries > x.Tries {
			givenUp[i] = true
			continue
		}
		m.Wait = x.Backoff
		for range m.Tries - 1 {
			m.Wait = min(2*m.Wait, top)
		}
	}
	for i := range moves {
		if waited[i] {
			moves[i].Wait--
		}
	}
	var left []api.Move
	var ends []api.Moved
	for i, m := range moves {
		switch {
		case givenUp[i]:
			ends = append(ends, api.Moved{Job: m.Job, Out: m.Out})
		case m.Done == m.Size:
			ends = append(ends, api.Moved{Job: m.Job, Out: m.Out, Done: true})
		default:
			left = append(left, m)
		}
	}
	return left, ends
}

// tick returns what is after a tick, which must be as in the chapter's words, and a list again.
func tick(t *testing.T, l []api.Move, x api.Rates, faults ...int64) ([]api.Move, []api.Moved) {
	t.Helper()
	left, ends, e := transfer.Tick(l, x, faults)
	wantLeft, wantEnds := asWords(t, l, x, faults)
	if e != api.OK || !slices.Equal(left, wantLeft) || !slices.Equal(ends, wantEnds) {
		t.Fatalf("Tick(%v, %v, %v) is %v, %v, %d, not %v, %v", l, x, faults, left, ends, e, wantLeft, wantEnds)
	}
	if e := transfer.Check(left); e != api.OK {
		t.Fatalf("Tick(%v, %v, %v) is %v: no list", l, x, faults, left)
	}
	return left, ends
}

// validMoves are at the edges of what is valid.
func validMoves() []api.Move {
	return []api.Move{
		{Job: 1, Size: 1}, {Job: maxJob, Size: 1}, {Job: 1, Size: top}, {Job: 1, Size: top, Done: top - 1}, {Job: 1, Size: 2, Done: 1},
		{Job: 1, Size: 1, Tries: 1}, {Job: 1, Size: 1, Tries: fails - 1}, {Job: 1, Size: 1, Tries: fails}, {Job: 1, Size: 1, Wait: 1}, {Job: 1, Size: 1, Wait: top},
		{Job: 1, Out: true, Size: 1}, {Job: maxJob, Out: true, Size: top, Done: top - 1, Tries: fails, Wait: top},
	}
}

// wrongMoves are beyond the edges, each by one number.
func wrongMoves() []api.Move {
	l := []api.Move{
		{}, {Job: 1}, {Size: 1}, {Job: 1, Size: 1, Done: 1}, {Job: 1, Size: 1, Done: 2}, {Job: 1, Size: 5, Done: 6}, {Job: 1, Size: top, Done: top},
		{Job: maxJob + 1, Size: 1}, {Job: 1, Size: top + 1}, {Job: 1, Size: top + 1, Done: top}, {Job: 1, Size: top + 2, Done: top + 1},
		{Job: 1, Size: 1, Tries: fails + 1}, {Job: 1, Size: 1, Wait: top + 1}, {Job: 1, Size: -1, Done: -2},
	}
	for _, n := range []int64{-1, -2, -top, least, least + 1, 2 * top, 1 << 62, most - 1, most} {
		l = append(l, api.Move{Job: n, Size: 1}, api.Move{Job: 1, Size: n}, api.Move{Job: 1, Size: 1, Done: n}, api.Move{Job: 1, Size: 1, Tries: n}, api.Move{Job: 1, Size: 1, Wait: n})
	}
	return l
}

// wrongLists are no lists of moves.
func wrongLists() [][]api.Move {
	l := [][]api.Move{
		row(many + 1), row(3 * many), {{Job: 1, Size: 1}, {Job: 1, Size: 1}}, {{Job: 2, Size: 1}, {Job: 1, Size: 1}},
		{{Job: 1, Size: 1}, {Job: 3, Size: 1}, {Job: 3, Size: 2}}, {{Job: 1, Size: 1}, {Job: 3, Size: 1}, {Job: 2, Size: 1}}, {{Job: 3, Size: 1}, {Job: 1, Size: 1}, {Job: 5, Size: 1}},
		{{Job: 1, Size: 1}, {Job: 1, Out: true, Size: 1}},
	}
	for _, m := range wrongMoves() {
		l = append(l, []api.Move{m})
		for i := range 3 { // at each place, with a number that fits there if there is one
			x, wrong := []api.Move{{Job: 1, Size: 1}, {Job: 2, Size: 1}, {Job: 3, Size: 1}}, m
			if wrong.Job == 1 {
				wrong.Job = x[i].Job
			}
			x[i] = wrong
			l = append(l, x)
		}
	}
	last := row(many)
	last[many-1].Done = 9
	return append(l, last)
}

func TestCheck(t *testing.T) { // P19.1
	lists := [][]api.Move{nil, {}, row(1), row(2), row(many - 1), row(many), validMoves()[1:2], {{Job: 1, Size: 1}, {Job: maxJob - 1, Size: 1}, {Job: maxJob, Size: 1}}}
	for _, m := range validMoves() {
		lists = append(lists, []api.Move{m})
	}
	for _, l := range lists {
		if e := transfer.Check(l); e != api.OK {
			t.Errorf("Check(%v) is %d", l, e)
		}
	}
	for _, l := range wrongLists() {
		if e := transfer.Check(l); e != api.ErrMove {
			t.Errorf("Check(%v) is %d", l, e)
		}
	}
}

func TestAdd(t *testing.T) { // P19.1
	a, b, c := api.Move{Job: 3, Size: 7, Done: 2, Tries: 1, Wait: 5}, api.Move{Job: 5, Out: true, Size: 8}, api.Move{Job: maxJob, Size: top}
	for _, x := range []struct {
		l    []api.Move
		m    api.Move
		want []api.Move
	}{
		{nil, a, []api.Move{a}},
		{[]api.Move{}, a, []api.Move{a}},
		{[]api.Move{a}, b, []api.Move{a, b}},
		{[]api.Move{b}, a, []api.Move{a, b}},
		{[]api.Move{a, c}, b, []api.Move{a, b, c}},
		{[]api.Move{a, b}, c, []api.Move{a, b, c}},
		{[]api.Move{b, c}, a, []api.Move{a, b, c}},
		{row(many)[1:], row(1)[0], row(many)},
		{row(many - 1), row(many)[many-1], row(many)},
		{slices.Delete(row(many), 77, 78), row(many)[77], row(many)},
	} {
		if l, e := transfer.Add(x.l, x.m); e != api.OK || !slices.Equal(l, x.want) {
			t.Errorf("Add(%v, %v) is %v, %d", x.l, x.m, l, e)
		}
	}
	for _, m := range validMoves() {
		if l, e := transfer.Add(nil, m); e != api.OK || !slices.Equal(l, []api.Move{m}) {
			t.Errorf("Add of %v is %v, %d", m, l, e)
		}
	}
	next := numbers()
	for range 300 { // from one to the next, as they come
		var l []api.Move
		want := some(next, 30)
		for _, i := range shuffled(next, len(want)) {
			var e api.Errno
			if l, e = transfer.Add(l, want[i]); e != api.OK {
				t.Fatal(l, want[i], e)
			}
		}
		if !slices.Equal(l, want) {
			t.Fatalf("what was added is %v, not %v", l, want)
		}
	}
}

// shuffled returns the numbers below n, in some order.
func shuffled(next func(int64) int64, n int) []int {
	l := make([]int, n)
	for i := range l {
		j := int(next(int64(i) + 1))
		l[i], l[j] = l[j], i
	}
	return l
}

// TestAddErrors has each error beside those that come after it.
func TestAddErrors(t *testing.T) { // P19.1
	refused := func(l []api.Move, m api.Move, want api.Errno) {
		t.Helper()
		if out, e := transfer.Add(l, m); e != want || out != nil {
			t.Errorf("Add(%v, %v) is %v, %d, not %d", l, m, out, e, want)
		}
	}
	for _, l := range wrongLists() {
		refused(l, api.Move{Job: 9, Size: 1}, api.ErrMove)
		refused(l, api.Move{Job: 1, Size: 1}, api.ErrMove)
		refused(l, api.Move{}, api.ErrMove)
	}
	for _, m := range wrongMoves() {
		for _, l := range [][]api.Move{nil, row(1), row(2), row(many)} { // also of a job that has one, or where there is no room
			refused(l, m, api.ErrMove)
		}
	}
	for _, n := range []int{1, 2, 3, many - 1, many} {
		for _, m := range row(n) {
			refused(row(n), m, api.ErrThere)
			refused(row(n), api.Move{Job: m.Job, Out: true, Size: 1}, api.ErrThere)
		}
	}
	refused(row(many), api.Move{Job: many + 1, Size: 1}, api.ErrFull)
	refused(row(many), api.Move{Job: maxJob, Size: 1}, api.ErrFull)
	refused(append(row(many - 1)[1:], api.Move{Job: many, Size: 1}, api.Move{Job: many + 1, Size: 1}), api.Move{Job: 1, Size: 1}, api.ErrFull)
}

func TestStop(t *testing.T) { // P19.1
	for _, n := range []int{1, 2, 3, 5, many - 1, many} {
		for i, m := range row(n) {
			if l, e := transfer.Stop(row(n), m.Job); e != api.OK || !slices.Equal(l, slices.Delete(row(n), i, i+1)) {
				t.Errorf("of %d, Stop of %d is %v, %d", n, m.Job, l, e)
			}
		}
	}
	if l, e := transfer.Stop(validMoves()[11:], maxJob); e != api.OK || len(l) != 0 {
		t.Errorf("Stop of the greatest job is %v, %d", l, e)
	}
	for _, job := range []int64{-1, 0, 1, 2, 4, 9, 11, maxJob, maxJob + 1, top, least, most} {
		for _, l := range [][]api.Move{nil, {}, {{Job: 3, Size: 1}}, {{Job: 3, Size: 1}, {Job: 5, Size: 1}, {Job: 10, Size: 4}}} {
			if out, e := transfer.Stop(l, job); e != api.ErrNone || out != nil {
				t.Errorf("Stop(%v, %d) is %v, %d", l, job, out, e)
			}
		}
		for _, l := range wrongLists() {
			if out, e := transfer.Stop(l, job); e != api.ErrMove || out != nil {
				t.Errorf("Stop(%v, %d) is %v, %d", l, job, out, e)
			}
		}
	}
}

func TestFresh(t *testing.T) { // P19.1
	lists := [][]api.Move{nil, {}, row(1), row(many)}
	for _, m := range validMoves() {
		lists = append(lists, []api.Move{m})
	}
	next := numbers()
	for range 200 {
		lists = append(lists, some(next, 10))
	}
	for _, l := range lists {
		var want []api.Move
		for _, m := range l {
			want = append(want, api.Move{Job: m.Job, Out: m.Out, Size: m.Size, Tries: m.Tries})
		}
		if out, e := transfer.Fresh(l); e != api.OK || !slices.Equal(out, want) {
			t.Errorf("Fresh(%v) is %v, %d", l, out, e)
		}
	}
	for _, l := range wrongLists() {
		if out, e := transfer.Fresh(l); e != api.ErrMove || out != nil {
			t.Errorf("Fresh(%v) is %v, %d", l, out, e)
		}
	}
}

// TestExample is the chapter's.
func TestExample(t *testing.T) { // P19.2
	x := api.Rates{Band: 10, Tries: 1, Backoff: 4}
	l := []api.Move{{Job: 1, Size: 25}}
	first, ends := tick(t, l, x)
	if !slices.Equal(first, []api.Move{{Job: 1, Size: 25, Done: 10}}) || len(ends) != 0 {
		t.Error(first, ends)
	}
	second, ends := tick(t, first, x)
	if !slices.Equal(second, []api.Move{{Job: 1, Size: 25, Done: 20}}) || len(ends) != 0 {
		t.Error(second, ends)
	}
	third, ends := tick(t, second, x)
	if len(third) != 0 || !slices.Equal(ends, []api.Moved{{Job: 1, Done: true}}) {
		t.Error(third, ends)
	}
	failed, ends := tick(t, first, x, 1)
	if !slices.Equal(failed, []api.Move{{Job: 1, Size: 25, Tries: 1, Wait: 4}}) || len(ends) != 0 {
		t.Error(failed, ends)
	}
	for wait := range int64(4) {
		failed, ends = tick(t, failed, x)
		if !slices.Equal(failed, []api.Move{{Job: 1, Size: 25, Tries: 1, Wait: 3 - wait}}) || len(ends) != 0 {
			t.Error(failed, ends)
		}
	}
	failed, ends = tick(t, failed, x, 1) // the fifth tick after the failure
	if len(failed) != 0 || !slices.Equal(ends, []api.Moved{{Job: 1}}) {
		t.Error(failed, ends)
	}
}

func TestTick(t *testing.T) { // P19.2
	for _, c := range []struct {
		about  string
		l      []api.Move
		x      api.Rates
		faults []int64
		left   []api.Move
		ends   []api.Moved
	}{
		{"nothing", nil, api.Rates{}, nil, nil, nil},
		{"nothing, with faults", []api.Move{}, api.Rates{Band: top, Backoff: top, Tries: fails - 1}, []int64{1, 2, least, most}, nil, nil},
		{"no bytes", []api.Move{{Job: 1, Size: 5, Done: 3}}, api.Rates{}, nil, []api.Move{{Job: 1, Size: 5, Done: 3}}, nil},
		{"one less than needed", []api.Move{{Job: 1, Size: 5, Done: 3}}, api.Rates{Band: 1}, nil, []api.Move{{Job: 1, Size: 5, Done: 4}}, nil},
		{"as needed", []api.Move{{Job: 1, Size: 5, Done: 3}}, api.Rates{Band: 2}, nil, nil, []api.Moved{{Job: 1, Done: true}}},
		{"more than needed", []api.Move{{Job: 1, Out: true, Size: 5, Done: 3, Tries: fails}}, api.Rates{Band: 3}, nil, nil, []api.Moved{{Job: 1, Out: true, Done: true}}},
		{"the greatest", []api.Move{{Job: 1, Size: top}}, api.Rates{Band: top}, nil, nil, []api.Moved{{Job: 1, Done: true}}},
		{"the greatest but one", []api.Move{{Job: 1, Size: top}}, api.Rates{Band: top - 1}, nil, []api.Move{{Job: 1, Size: top, Done: top - 1}}, nil},
		{"a share", []api.Move{{Job: 1, Size: 3}, {Job: 2, Size: 19, Done: 10}, {Job: 3, Size: 9}}, api.Rates{Band: 10}, nil,
			[]api.Move{{Job: 2, Size: 19, Done: 14}, {Job: 3, Size: 9, Done: 3}}, []api.Moved{{Job: 1, Done: true}}},
		{"a share without one that waits", []api.Move{{Job: 1, Size: 9}, {Job: 2, Size: 9, Wait: 1}, {Job: 3, Size: 9}}, api.Rates{Band: 10}, nil,
			[]api.Move{{Job: 1, Size: 9, Done: 5}, {Job: 2, Size: 9}, {Job: 3, Size: 9, Done: 5}}, nil},
		{"the share of one that fails is nobody's", []api.Move{{Job: 1, Size: 9}, {Job: 2, Size: 9}}, api.Rates{Band: 9, Backoff: 3, Tries: 1}, []int64{1},
			[]api.Move{{Job: 1, Size: 9, Tries: 1, Wait: 3}, {Job: 2, Size: 9, Done: 4}}, nil},
		{"one that fails when it would be done", []api.Move{{Job: 1, Size: 9, Done: 8}}, api.Rates{Band: 9, Backoff: 3, Tries: 1}, []int64{1},
			[]api.Move{{Job: 1, Size: 9, Tries: 1, Wait: 3}}, nil},
		{"one that is given up when it would be done", []api.Move{{Job: 1, Size: 9, Done: 8}}, api.Rates{Band: 9, Backoff: 3}, []int64{1}, nil, []api.Moved{{Job: 1}}},
		{"one that waits does not fail", []api.Move{{Job: 1, Out: true, Size: 9, Done: 8, Tries: 3, Wait: 1}}, api.Rates{Band: 9}, []int64{1}, []api.Move{{Job: 1, Out: true, Size: 9, Done: 8, Tries: 3}}, nil},
		{"one that waits long", []api.Move{{Job: 1, Size: 9, Wait: top}}, api.Rates{Band: 9}, []int64{1}, []api.Move{{Job: 1, Size: 9, Wait: top - 1}}, nil},
		{"a backoff of nothing", []api.Move{{Job: 1, Size: 9, Done: 3, Tries: 2}}, api.Rates{Tries: 3}, []int64{1}, []api.Move{{Job: 1, Size: 9, Tries: 3}}, nil},
		{"a backoff, doubled twice", []api.Move{{Job: 1, Size: 9, Done: 3, Tries: 2}}, api.Rates{Tries: 3, Backoff: 5}, []int64{1}, []api.Move{{Job: 1, Size: 9, Tries: 3, Wait: 20}}, nil},
		{"a backoff, doubled as often as it can be", []api.Move{{Job: 1, Size: 9, Done: 3, Tries: fails - 2}}, api.Rates{Tries: fails - 1, Backoff: 1}, []int64{1}, []api.Move{{Job: 1, Size: 9, Tries: fails - 1, Wait: 1 << 18}}, nil},
		{"the greatest backoff", []api.Move{{Job: 1, Size: 9}}, api.Rates{Tries: 1, Backoff: top}, []int64{1}, []api.Move{{Job: 1, Size: 9, Tries: 1, Wait: top}}, nil},
		{"the greatest backoff, doubled", []api.Move{{Job: 1, Size: 9, Tries: 1}}, api.Rates{Tries: 2, Backoff: top/2 + 1}, []int64{1}, []api.Move{{Job: 1, Size: 9, Tries: 2, Wait: top}}, nil},
		{"as many tries as there may be", []api.Move{{Job: 1, Size: 9, Tries: fails - 1}}, api.Rates{Tries: fails - 1, Backoff: 1}, []int64{1}, nil, []api.Moved{{Job: 1}}},
		{"more tries than there may be", []api.Move{{Job: 1, Size: 9, Tries: fails}}, api.Rates{Tries: fails - 1, Backoff: 1}, []int64{1}, nil, []api.Moved{{Job: 1}}},
		{"no tries", []api.Move{{Job: 1, Out: true, Size: 9}}, api.Rates{Backoff: 1}, []int64{1}, nil, []api.Moved{{Job: 1, Out: true}}},
		{"more tries than now, but no fault", []api.Move{{Job: 1, Size: 9, Tries: fails}}, api.Rates{Band: 2}, nil, []api.Move{{Job: 1, Size: 9, Done: 2, Tries: fails}}, nil},
		{"faults in any order, more than once, and of others", []api.Move{{Job: 1, Size: 9, Done: 1}, {Job: 2, Size: 9, Done: 1}, {Job: 3, Size: 9, Done: 1}}, api.Rates{Band: 3, Backoff: 2, Tries: 2}, []int64{5, 3, 0, 1, -1, 3, least, 3, most, 4},
			[]api.Move{{Job: 1, Size: 9, Tries: 1, Wait: 2}, {Job: 2, Size: 9, Done: 2}, {Job: 3, Size: 9, Tries: 1, Wait: 2}}, nil},
		{"done and given up, by their jobs", []api.Move{{Job: 1, Size: 1}, {Job: 3, Out: true, Size: 1}, {Job: 4, Size: 1, Wait: 2}, {Job: 7, Out: true, Size: 1}, {Job: maxJob, Size: 1}}, api.Rates{Band: 9}, []int64{maxJob, 3},
			[]api.Move{{Job: 4, Size: 1, Wait: 1}}, []api.Moved{{Job: 1, Done: true}, {Job: 3, Out: true}, {Job: 7, Out: true, Done: true}, {Job: maxJob}}},
	} {
		if left, ends := tick(t, c.l, c.x, c.faults...); !slices.Equal(left, c.left) || !slices.Equal(ends, c.ends) {
			t.Errorf("%s: %v, %v, not %v, %v", c.about, left, ends, c.left, c.ends)
		}
	}
}

// TestTicks lets many lists go on to their end, with faults as they come.
func TestTicks(t *testing.T) { // P19.2
	next := numbers()
	for range 1500 {
		l := some(next, 8)
		x := api.Rates{Band: next(40) + 1, Backoff: next(4), Tries: next(6)}
		for len(l) > 0 {
			var faults []int64
			for range next(4) {
				faults = append(faults, next(40))
			}
			l, _ = tick(t, l, x, faults...)
		}
	}
	full := row(many)
	for i := range full {
		full[i].Size, full[i].Wait, full[i].Tries = next(1<<next(41))+5, next(2), next(fails+1)
	}
	for _, band := range []int64{0, 1, 100, 1000, 1 << 30, top} {
		for _, tries := range []int64{0, 10, fails - 1} {
			tick(t, full, api.Rates{Band: band, Backoff: 1 << 25, Tries: tries}, 3, 7, 77, 100, 140, 150, 160, 199, 200, 201)
		}
	}
}

// TestTickErrors has each error beside those that come after it.
func TestTickErrors(t *testing.T) { // P19.2
	refused := func(l []api.Move, x api.Rates, want api.Errno) {
		t.Helper()
		for _, faults := range [][]int64{nil, {1}} {
			if left, ends, e := transfer.Tick(l, x, faults); e != want || left != nil || ends != nil {
				t.Errorf("Tick(%v, %v, %v) is %v, %v, %d, not %d", l, x, faults, left, ends, e, want)
			}
		}
	}
	wrong := []api.Rates{{Tries: fails}, {Tries: fails + 1}, {Band: top + 1}, {Backoff: top + 1}}
	for _, n := range []int64{-1, -2, -top, least, 2 * top, most} {
		wrong = append(wrong, api.Rates{Band: n}, api.Rates{Backoff: n}, api.Rates{Tries: n}, api.Rates{Band: n, Backoff: n, Tries: n})
	}
	for _, l := range wrongLists() {
		refused(l, api.Rates{Band: 1}, api.ErrMove)
		refused(l, wrong[0], api.ErrMove)
		refused(l, wrong[len(wrong)-1], api.ErrMove)
	}
	for _, x := range wrong {
		for _, l := range [][]api.Move{nil, {}, {{Job: 1, Size: 1}}, {{Job: 1, Size: 5, Wait: 4}}, row(many)} {
			refused(l, x, api.ErrArg)
		}
	}
	for _, x := range []api.Rates{{}, {Band: top}, {Backoff: top}, {Tries: fails - 1}} {
		if _, _, e := transfer.Tick(nil, x, nil); e != api.OK {
			t.Errorf("with %v: %d", x, e)
		}
	}
}

func TestLeft(t *testing.T) { // P19.3
	for _, c := range []struct {
		m          api.Move
		rate, want int64
	}{
		{api.Move{Job: 1, Size: 25}, 10, 3},
		{api.Move{Job: 1, Size: 25, Done: 5}, 10, 2},
		{api.Move{Job: 1, Size: 25, Done: 4}, 10, 3},
		{api.Move{Job: 1, Size: 25, Done: 15}, 10, 1},
		{api.Move{Job: 1, Size: 25, Done: 24}, 10, 1},
		{api.Move{Job: 1, Size: 25, Done: 4, Wait: 7, Tries: 3}, 10, 10},
		{api.Move{Job: maxJob, Out: true, Size: 25, Done: 4, Wait: 7, Tries: fails}, 1, 28},
		{api.Move{Job: 1, Size: 1}, 1, 1},
		{api.Move{Job: 1, Size: 1}, top, 1},
		{api.Move{Job: 1, Size: top}, top, 1},
		{api.Move{Job: 1, Size: top}, top - 1, 2},
		{api.Move{Job: 1, Size: top}, 1, top},
		{api.Move{Job: 1, Size: top, Done: top - 1}, 1, 1},
		{api.Move{Job: 1, Size: top - 9, Wait: 9}, 1, top},
		{api.Move{Job: 1, Size: top - 9, Wait: 8}, 1, top - 1},
		{api.Move{Job: 1, Size: 5}, 0, top}, // it never ends
		{api.Move{Job: 1, Size: 5}, -1, top},
		{api.Move{Job: 1, Size: 5}, least, top},
		{api.Move{Job: 1, Size: top}, most, 1},
		{api.Move{Job: 1, Size: top}, top + 1, 1},
		{api.Move{Job: 1, Size: 5, Wait: 3}, 0, top}, // a time is at most Top
		{api.Move{Job: 1, Size: top - 9, Wait: 10}, 1, top},
		{api.Move{Job: 1, Size: top, Wait: top}, 1, top},
		{api.Move{Job: 1, Size: 1, Wait: top}, 1, top},
	} {
		if n := transfer.Left(c.m, c.rate); n != c.want {
			t.Errorf("Left(%v, %d) is %d, not %d", c.m, c.rate, n, c.want)
		}
	}
	for _, m := range wrongMoves() {
		for _, rate := range []int64{-1, 0, 1, 10, top, most} {
			if n := transfer.Left(m, rate); n != top {
				t.Errorf("Left(%v, %d) is %d", m, rate, n)
			}
		}
	}
}

// TestLeftIsExact lets one move go on alone: it takes as many ticks as Left says.
func TestLeftIsExact(t *testing.T) { // P19.3
	next := numbers()
	for range 2000 {
		size, rate := next(60)+1, next(20)+1
		m := api.Move{Job: 4, Size: size, Done: next(size), Wait: next(5)}
		l, ticks := []api.Move{m}, int64(0)
		for len(l) > 0 {
			l, _ = tick(t, l, api.Rates{Band: rate})
			ticks++
		}
		if n := transfer.Left(m, rate); n != ticks {
			t.Fatalf("Left(%v, %d) is %d, but it takes %d", m, rate, n, ticks)
		}
	}
}

// arrived returns how many bytes more the moves have after a tick without faults than before it.
func arrived(before, after []api.Move) int64 {
	sum := int64(0)
	for _, m := range before {
		has := m.Size
		if i := slices.IndexFunc(after, func(x api.Move) bool { return x.Job == m.Job }); i >= 0 {
			has = after[i].Done
		}
		sum += has - m.Done
	}
	return sum
}

func TestWithoutFaults(t *testing.T) { // P19.4
	next := numbers()
	for range 3000 {
		l, rate := some(next, 12), next(12)+1
		x := api.Rates{Band: rate*int64(len(l)) + next(5), Backoff: next(4), Tries: next(3)}
		after, ends := tick(t, l, x)
		for _, m := range l {
			i := slices.IndexFunc(after, func(x api.Move) bool { return x.Job == m.Job })
			if i < 0 && !slices.Contains(ends, api.Moved{Job: m.Job, Out: m.Out, Done: true}) {
				t.Fatalf("of %v, with %v, %v ended: %v", l, x, m, ends)
			}
			if i >= 0 && transfer.Left(after[i], rate) >= transfer.Left(m, rate) {
				t.Fatalf("of %v, with %v, %v became %v", l, x, m, after[i])
			}
		}
		scarce := api.Rates{Band: next(rate + 1), Tries: next(3)}
		after, ends = tick(t, l, scarce)
		if n := arrived(l, after); n > scarce.Band {
			t.Fatalf("of %v, with %v, %d arrived", l, scarce, n)
		}
		for _, end := range ends {
			if !end.Done {
				t.Fatalf("of %v, with %v, one is given up: %v", l, scarce, ends)
			}
		}
	}
}

func TestFailsEachTime(t *testing.T) { // P19.5
	for tries := range int64(fails) {
		for backoff := range int64(4) {
			l, failed := []api.Move{{Job: 6, Out: true, Size: 9}, {Job: 8, Size: top}}, int64(0)
			for {
				if l[0].Job != 6 || l[0].Wait != 0 {
					t.Fatalf("with %d tries, it is %v", tries, l)
				}
				var ends []api.Moved
				l, ends = tick(t, l, api.Rates{Band: 4, Backoff: backoff, Tries: tries}, 6)
				failed++
				if slices.Equal(ends, []api.Moved{{Job: 6, Out: true}}) {
					break
				}
				if len(ends) != 0 || l[0].Tries != failed || l[0].Wait != backoff<<(failed-1) {
					t.Fatalf("with %d tries, after %d failures: %v, %v", tries, failed, l, ends)
				}
				for l[0].Wait > 1000 { // as often as the longest would wait, much of it at once
					l[0].Wait -= 1000
				}
				for l[0].Wait > 0 {
					if l, ends = tick(t, l, api.Rates{Band: 4, Backoff: backoff, Tries: tries}, 6); len(ends) != 0 || l[0].Tries != failed {
						t.Fatalf("while it waits, after %d failures: %v, %v", failed, l, ends)
					}
				}
			}
			if failed != tries+1 {
				t.Errorf("with %d tries, it is given up after %d failures", tries, failed)
			}
		}
	}
}

// TestMemory holds that arguments stay as they are, also what is after them, and that each result has memory of its own.
func TestMemory(t *testing.T) { // P19.1, P19.2
	calls := []func(l []api.Move, faults []int64) []api.Move{
		func(l []api.Move, _ []int64) []api.Move {
			out, _ := transfer.Add(l, api.Move{Job: 2, Size: 1})
			return out
		},
		func(l []api.Move, _ []int64) []api.Move {
			out, _ := transfer.Add(l, api.Move{Job: 99, Size: 1})
			return out
		},
		func(l []api.Move, _ []int64) []api.Move { out, _ := transfer.Stop(l, 1); return out },
		func(l []api.Move, _ []int64) []api.Move { out, _ := transfer.Stop(l, 7); return out },
		func(l []api.Move, _ []int64) []api.Move { out, _ := transfer.Stop(l, 100); return out },
		func(l []api.Move, _ []int64) []api.Move { out, _ := transfer.Fresh(l); return out },
		func(l []api.Move, faults []int64) []api.Move {
			out, _, _ := transfer.Tick(l, api.Rates{}, faults)
			return out
		},
		func(l []api.Move, faults []int64) []api.Move {
			out, _, _ := transfer.Tick(l, api.Rates{Band: 40, Tries: 9, Backoff: 4}, faults)
			return out
		},
		func(l []api.Move, faults []int64) []api.Move {
			out, _, _ := transfer.Tick(l, api.Rates{Band: -1}, faults)
			return out
		},
	}
	spoilt := api.Move{Job: -5, Size: -5}
	for i, call := range calls {
		moves := []api.Move{{Job: 1, Size: 9}, {Job: 5, Size: 20, Wait: 2}, {Job: 7, Size: 50, Tries: 2}, {Job: 77, Size: 70}, {Job: 78, Size: 1}}
		faults := []int64{7, 1, 9, 8}
		wasMoves, wasFaults := slices.Clone(moves), slices.Clone(faults)
		out, other := call(moves[:3], faults[:2]), call(moves[:3], faults[:2])
		if !slices.Equal(moves, wasMoves) || !slices.Equal(faults, wasFaults) {
			t.Errorf("after call %d, the arguments and what is after them are %v, %v", i, moves, faults)
		}
		was := slices.Clone(out)
		for _, l := range [][]api.Move{moves, other[:cap(other)]} {
			for i := range l {
				l[i] = spoilt
			}
		}
		if !slices.Equal(out, was) {
			t.Errorf("after call %d, what was %v is %v", i, was, out)
		}
		for i := range out[:cap(out)] {
			out[:cap(out)][i] = api.Move{}
		}
		if !slices.Equal(moves, slices.Repeat([]api.Move{spoilt}, 5)) || !slices.Equal(other, slices.Repeat([]api.Move{spoilt}, len(other))) {
			t.Errorf("what call %d returned is elsewhere, too: %v, %v", i, moves, other)
		}
	}
}

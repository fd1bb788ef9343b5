package fit_test

import (
	"math"
	"slices"
	"testing"

	"forebay/api"
	"forebay/fit"
	"forebay/steps"
)

const (
	top  = 1 << 40 // written out, so that a wrong limit does not agree with itself
	most = 2000    // steps of a profile
)

// profile returns one from pairs: a time, and how many there are from then on.
func profile(pairs ...int64) api.Steps {
	var s api.Steps
	for i := 0; i+1 < len(pairs); i += 2 {
		s.At = append(s.At, pairs[i])
		s.N = append(s.N, pairs[i+1])
	}
	return s
}

// many returns a profile of n steps, each so long; the numbers are in turn those of l.
func many(n int, long int64, l ...int64) api.Steps {
	var s api.Steps
	for i := range n {
		s.At = append(s.At, int64(i)*long)
		s.N = append(s.N, l[i%len(l)])
	}
	return s
}

// always returns a room that stays as it is.
func always(nodes, bytes, lanes int64) api.Room {
	return api.Room{Nodes: profile(0, nodes), Bytes: profile(0, bytes), Lanes: profile(0, lanes)}
}

func cloneSteps(s api.Steps) api.Steps {
	return api.Steps{At: slices.Clone(s.At), N: slices.Clone(s.N)}
}

func clone(r api.Room) api.Room {
	return api.Room{Nodes: cloneSteps(r.Nodes), Bytes: cloneSteps(r.Bytes), Lanes: cloneSteps(r.Lanes)}
}

func equalSteps(a, b api.Steps) bool {
	return slices.Equal(a.At, b.At) && slices.Equal(a.N, b.N)
}

func equal(a, b api.Room) bool {
	return equalSteps(a.Nodes, b.Nodes) && equalSteps(a.Bytes, b.Bytes) && equalSteps(a.Lanes, b.Lanes)
}

// same reports whether there is the same in two rooms, at all times.
func same(a, b api.Room) bool {
	return steps.Same(a.Nodes, b.Nodes) && steps.Same(a.Bytes, b.Bytes) && steps.Same(a.Lanes, b.Lanes)
}

func empty(r api.Room) bool {
	return r.Nodes.At == nil && r.Nodes.N == nil && r.Bytes.At == nil && r.Bytes.N == nil && r.Lanes.At == nil && r.Lanes.N == nil
}

// number is the words of layer 4: N[i], for the last i whose At is not above t.
func number(s api.Steps, t int64) int64 {
	n := int64(-1)
	for i := range s.At {
		if s.At[i] <= t {
			n = s.N[i]
		}
	}
	return n
}

// fits is the chapter's words: the end is not above Top, and at no time before it there are fewer.
func fits(s api.Steps, at, long, n int64) bool {
	if at+long > top {
		return false
	}
	least := int64(top)
	if long > 0 {
		least = number(s, at)
	}
	for i := range s.At {
		if at <= s.At[i] && s.At[i] < at+long {
			least = min(least, s.N[i])
		}
	}
	return least >= n
}

// firstFit tries the times one by one, up to the last step of s: behind it, and behind the time from which is asked, nothing changes for the better.
func firstFit(s api.Steps, from, long, n int64) (int64, bool) {
	for t := from; t <= max(from, s.At[len(s.At)-1]); t++ {
		if fits(s, t, long, n) {
			return t, true
		}
	}
	return 0, false
}

// isSlot is the chapter's words.
func isSlot(r api.Room, x api.Shape, at api.Slot) bool {
	return fits(r.Lanes, at.S, x.In, x.Lanes) &&
		fits(r.Nodes, at.C, x.Wall, x.Nodes) && at.C >= at.S+x.In &&
		fits(r.Lanes, at.O, x.Out, x.Lanes) && at.O >= at.C+x.Wall &&
		fits(r.Bytes, at.S, at.O+x.Out-at.S, x.Bytes)
}

// firstSlot tries the times one by one, up to the last step of all.
func firstSlot(r api.Room, x api.Shape, from int64) (api.Slot, bool) {
	last := from
	for _, s := range []api.Steps{r.Nodes, r.Bytes, r.Lanes} {
		last = max(last, s.At[len(s.At)-1])
	}
	for t := from; t <= last; t++ {
		c, ok := firstFit(r.Nodes, t+x.In, x.Wall, x.Nodes)
		if !ok {
			return api.Slot{}, false
		}
		o, ok := firstFit(r.Lanes, c+x.Wall, x.Out, x.Lanes)
		if !ok {
			return api.Slot{}, false
		}
		if at := (api.Slot{S: t, C: c, O: o}); isSlot(r, x, at) {
			return at, true
		}
	}
	return api.Slot{}, false
}

// numbers returns a function that answers other numbers below a bound each time, the same ones in each run.
func numbers() func(bound int64) int64 {
	state := uint64(1)
	return func(bound int64) int64 {
		state = state*6364136223846793005 + 1442695040888963407
		return int64(state >> 33 % uint64(bound))
	}
}

// anyProfile returns one with steps at some of the times behind base, before base + long; numbers are below bound, adjacent ones may be equal.
func anyProfile(next func(int64) int64, base, long, bound int64) api.Steps {
	s := profile(0, next(bound))
	for t := max(base, 1); t < base+long; t++ {
		if next(3) > 0 {
			s.At, s.N = append(s.At, t), append(s.N, next(bound))
		}
	}
	return s
}

func anyRoom(next func(int64) int64, base, long int64) api.Room {
	return api.Room{Nodes: anyProfile(next, base, long, 4), Bytes: anyProfile(next, base, long, 6), Lanes: anyProfile(next, base, long, 4)}
}

func anyShape(next func(int64) int64) api.Shape {
	return api.Shape{In: next(4), Wall: next(4), Out: next(4), Nodes: next(3), Bytes: next(4), Lanes: next(3)}
}

// bases are where the steps of small rooms begin: at 0, and so that the last ones are at Top.
func bases(long int64) []int64 { return []int64{0, top - long + 1} }

// wrong returns profiles that are not valid.
func wrong() map[string]api.Steps {
	return map[string]api.Steps{
		"nil":                      {},
		"empty":                    {At: []int64{}, N: []int64{}},
		"numbers alone":            {N: []int64{1}},
		"times alone":              {At: []int64{0}},
		"a number too few":         {At: []int64{0, 4}, N: []int64{9}},
		"a number too many":        {At: []int64{0}, N: []int64{9, 9}},
		"begins at 1":              profile(1, 9),
		"begins below 0":           profile(-1, 9),
		"a time twice":             profile(0, 9, 5, 9, 5, 9),
		"a time that goes back":    profile(0, 9, 5, 9, 4, 9),
		"a time above Top":         profile(0, 9, top+1, 9),
		"the greatest time of all": profile(0, 9, math.MaxInt64, 9),
		"a number below 0":         profile(0, 9, 500, -1),
		"a number above Top":       profile(0, 9, 500, top+1),
		"the least number":         profile(0, math.MinInt64),
		"the greatest number":      profile(0, math.MaxInt64),
		"2001 steps":               many(most+1, 1, 9),
	}
}

// outside are numbers that are not quantities.
func outside() []int64 {
	return []int64{math.MinInt64, -top, -1, top + 1, 2 * top, math.MaxInt64}
}

func TestFirst(t *testing.T) { // P10.1
	a := profile(0, 5, 2, 2, 4, 5)
	loose := profile(0, 1, 3, 4, 5, 4, 7, 4, 9, 0, 12, 4, 13, 5, top, 0)
	for i, c := range []struct {
		s                api.Steps
		from, long, n, t int64
		e                api.Errno
	}{
		{a, 0, 3, 4, 4, api.OK},
		{a, 0, 2, 4, 0, api.OK},
		{a, 0, 1, 6, 0, api.ErrNone},
		{a, 0, 2, 5, 0, api.OK},
		{a, 0, 3, 2, 0, api.OK},
		{a, 0, 3, 3, 4, api.OK},
		{a, 1, 1, 5, 1, api.OK},
		{a, 1, 2, 5, 4, api.OK},
		{a, 2, 1, 3, 4, api.OK},
		{a, 3, 2, 2, 3, api.OK},
		{a, 4, 2, 5, 4, api.OK},
		{a, 9, 2, 5, 9, api.OK},
		{a, 0, top, 2, 0, api.OK},
		{a, 0, top, 3, 0, api.ErrNone},
		{a, 1, top - 1, 2, 1, api.OK},
		{a, 1, top, 2, 0, api.ErrNone}, // the end would be above Top
		{a, 0, top - 4, 5, 4, api.OK},
		{a, 0, top - 3, 5, 0, api.ErrNone},
		{a, top - 1, 1, 5, top - 1, api.OK},
		{a, top - 1, 2, 5, 0, api.ErrNone},
		{a, top, 1, 0, 0, api.ErrNone},
		{a, 3, 0, 9, 3, api.OK}, // of length 0: always
		{a, 0, 0, top, 0, api.OK},
		{a, top, 0, top, top, api.OK},
		{loose, 0, 4, 4, 3, api.OK}, // steps that are not normal are no ends
		{loose, 0, 6, 4, 3, api.OK},
		{loose, 0, 7, 4, 12, api.OK},
		{loose, 6, 3, 4, 6, api.OK},
		{loose, 6, 4, 4, 12, api.OK},
		{loose, 9, 0, 4, 9, api.OK},
		{loose, 9, 1, 4, 12, api.OK},
		{loose, 9, 1, 0, 9, api.OK},
		{loose, 0, top - 12, 4, 12, api.OK}, // Top itself is not before Top
		{loose, 0, top - 11, 4, 0, api.ErrNone},
		{loose, top, 0, 1, top, api.OK},
		{profile(0, 0), 0, 1, 1, 0, api.ErrNone},
		{profile(0, 0), 0, top, 0, 0, api.OK},
		{profile(0, top), 0, top, top, 0, api.OK},
		{profile(0, 0, top, 5), 0, 1, 5, 0, api.ErrNone},
		{profile(0, 0, top, 5), top, 0, 5, top, api.OK},
		{profile(0, 0, top-1, 5), 0, 1, 5, top - 1, api.OK},
		{profile(0, 0, top-1, 5), 0, 2, 5, 0, api.ErrNone},
	} {
		if at, e := fit.First(c.s, c.from, c.long, c.n); at != c.t || e != c.e {
			t.Errorf("%d: First is %d, %d, not %d, %d", i, at, e, c.t, c.e)
		}
	}
}

func TestFirstWrong(t *testing.T) { // P10.1
	for name, s := range wrong() {
		for _, c := range [][3]int64{{0, 1, 1}, {0, 0, 0}, {7, 0, 99}, {0, 1, 99}, {top, top, 0}, {-1, 1, 1}} {
			if at, e := fit.First(s, c[0], c[1], c[2]); at != 0 || e != api.ErrArg {
				t.Errorf("%s: First(%v) is %d, %d", name, c, at, e)
			}
		}
	}
	for _, no := range outside() {
		for _, c := range [][3]int64{{no, 1, 1}, {no, 0, 1}, {0, no, 1}, {0, 1, no}, {0, 0, no}, {0, no, 99}, {no, 1, 99}, {no, no, no}} {
			if at, e := fit.First(profile(0, 9), c[0], c[1], c[2]); at != 0 || e != api.ErrArg {
				t.Errorf("First(%v) is %d, %d", c, at, e)
			}
		}
	}
}

// TestFirstOneByOne holds First against the chapter's words, at the begin and at the end of all times.
func TestFirstOneByOne(t *testing.T) { // P10.1
	next := numbers()
	found, none := 0, 0
	for _, base := range bases(8) {
		for range 3000 {
			s := anyProfile(next, base, 8, 4)
			from, long, n := base+next(8), next(6), next(5)
			want, ok := firstFit(s, from, long, n)
			at, e := fit.First(s, from, long, n)
			if ok != (e == api.OK) || !ok && e != api.ErrNone || at != want {
				t.Fatalf("First(%v, %d, %d, %d) is %d, %d, not %d, %t", s, from, long, n, at, e, want, ok)
			}
			if ok && at > from {
				found++
			} else if !ok {
				none++
			}
		}
	}
	if found < 500 || none < 500 {
		t.Error("few were found later, or never:", found, none)
	}
}

// shape is of 3 in, 10 of work, 2 out, 4 nodes, 50 bytes, 1 lane.
func shape() api.Shape {
	return api.Shape{In: 3, Wall: 10, Out: 2, Nodes: 4, Bytes: 50, Lanes: 1}
}

func TestIs(t *testing.T) { // P10.2
	r, x := always(4, 100, 2), shape()
	nodes := always(4, 100, 2)
	nodes.Nodes = profile(0, 3, 8, 4, 18, 3)
	lanes := always(4, 100, 2)
	lanes.Lanes = profile(0, 0, 5, 1, 8, 0, 18, 1, 20, 0)
	bytes := always(4, 100, 2)
	bytes.Bytes = profile(0, 49, 5, 50, 20, 49)
	late := api.Slot{S: top - 15, C: top - 12, O: top - 2}
	for i, c := range []struct {
		r    api.Room
		at   api.Slot
		want bool
	}{
		{r, api.Slot{S: 5, C: 8, O: 18}, true},
		{r, api.Slot{S: 5, C: 7, O: 18}, false}, // before the end of In
		{r, api.Slot{S: 5, C: 8, O: 17}, false}, // before the end of Wall
		{r, api.Slot{S: 5, C: 9, O: 30}, true},  // later than the first fits
		{r, api.Slot{S: 0, C: 3, O: 13}, true},
		{r, api.Slot{S: 0, C: 0, O: 13}, false},
		{r, api.Slot{S: 0, C: 3, O: 3}, false},
		{r, api.Slot{S: 18, C: 8, O: 5}, false},
		{r, late, true},
		{r, api.Slot{S: top - 14, C: top - 11, O: top - 1}, false}, // Out would end above Top
		{r, api.Slot{S: top - 12, C: top - 9, O: top}, false},
		{r, api.Slot{S: top - 1, C: top, O: top}, false},
		{nodes, api.Slot{S: 5, C: 8, O: 18}, true},
		{nodes, api.Slot{S: 0, C: 8, O: 18}, true},
		{nodes, api.Slot{S: 4, C: 7, O: 18}, false},
		{nodes, api.Slot{S: 5, C: 9, O: 19}, false},
		{lanes, api.Slot{S: 5, C: 8, O: 18}, true},
		{lanes, api.Slot{S: 4, C: 8, O: 18}, false},
		{lanes, api.Slot{S: 6, C: 9, O: 19}, false},
		{lanes, api.Slot{S: 5, C: 8, O: 19}, false},
		{bytes, api.Slot{S: 5, C: 8, O: 18}, true},
		{bytes, api.Slot{S: 4, C: 8, O: 18}, false}, // too few while In begins
		{bytes, api.Slot{S: 5, C: 8, O: 19}, false}, // too few at the end of Out
	} {
		if is := fit.Is(c.r, x, c.at); is != c.want {
			t.Errorf("%d: Is(%v) is %t", i, c.at, is)
		}
	}
	if none := (api.Room{Nodes: profile(0, 0), Bytes: profile(0, 0), Lanes: profile(0, 0)}); !fit.Is(none, api.Shape{Nodes: 9, Bytes: 9, Lanes: 9}, api.Slot{S: 7, C: 7, O: 7}) ||
		fit.Is(none, api.Shape{Nodes: 9, Bytes: 9, Lanes: 9}, api.Slot{S: 7, C: 8, O: 8}) ||
		!fit.Is(none, api.Shape{Nodes: 9, Lanes: 9}, api.Slot{S: 7, C: 8, O: top}) {
		t.Error("windows of length 0 do not always fit, or bytes that wait for one do")
	}
}

// wrongShapes returns shapes with one number that is not a quantity.
func wrongShapes() []api.Shape {
	var l []api.Shape
	for _, no := range outside() {
		for i := range 6 {
			x := shape()
			*[]*int64{&x.In, &x.Wall, &x.Out, &x.Nodes, &x.Bytes, &x.Lanes}[i] = no
			l = append(l, x)
		}
	}
	return l
}

// wrongRooms returns rooms with one profile that is not valid.
func wrongRooms() map[string]api.Room {
	m := map[string]api.Room{"nothing": {}}
	for name, s := range wrong() {
		for i, which := range []string{"nodes: ", "bytes: ", "lanes: "} {
			r := always(9, 99, 9)
			*[]*api.Steps{&r.Nodes, &r.Bytes, &r.Lanes}[i] = s
			m[which+name] = r
		}
	}
	return m
}

// wrongSlots returns slots with one time that is not a quantity.
func wrongSlots() []api.Slot {
	var l []api.Slot
	for _, no := range outside() {
		for i := range 3 {
			at := api.Slot{S: 5, C: 8, O: 18}
			*[]*int64{&at.S, &at.C, &at.O}[i] = no
			l = append(l, at)
		}
		l = append(l, api.Slot{S: no, C: no, O: no})
	}
	return l
}

// refused fails where one of the calls with a shape accepts what is not valid.
func refused(t *testing.T, what string, r api.Room, x api.Shape, at api.Slot) {
	t.Helper()
	if fit.Is(r, x, at) {
		t.Errorf("%s: Is(%v, %v) is true", what, x, at)
	}
	for i, do := range []func(api.Room, api.Shape, api.Slot) (api.Room, api.Errno){fit.Take, fit.Give} {
		if got, e := do(r, x, at); e != api.ErrArg || !empty(got) {
			t.Errorf("%s: call %d (%v, %v) is %v, %d", what, i, x, at, got, e)
		}
	}
}

func refusedSlot(t *testing.T, what string, r api.Room, x api.Shape, from int64) {
	t.Helper()
	if at, e := fit.Slot(r, x, from); e != api.ErrArg || at != (api.Slot{}) {
		t.Errorf("%s: Slot(%v, %d) is %v, %d", what, x, from, at, e)
	}
}

func TestWrong(t *testing.T) { // P10.2, P10.3
	good, full, at := shape(), shape(), api.Slot{S: 5, C: 8, O: 18}
	full.Nodes, full.Bytes, full.Lanes = top, top, top // ErrArg is in front of ErrNone and ErrFull
	shapes := []api.Shape{good, full, {}, {In: 3, Wall: 10, Out: 2}}
	for name, r := range wrongRooms() {
		for _, x := range shapes {
			refused(t, name, r, x, at)
			refused(t, name, r, x, api.Slot{})
			refusedSlot(t, name, r, x, 5)
		}
	}
	for _, r := range []api.Room{always(9, 99, 9), always(0, 0, 0), always(top, top, top), {}} {
		for _, x := range wrongShapes() {
			refused(t, "a shape", r, x, at)
			refusedSlot(t, "a shape", r, x, 5)
		}
		for _, x := range shapes {
			for _, no := range wrongSlots() {
				refused(t, "a slot", r, x, no)
			}
			for _, no := range outside() {
				refusedSlot(t, "a time", r, x, no)
			}
		}
	}
}

func TestSlot(t *testing.T) { // P10.2
	none := api.Slot{}
	x := shape()
	for name, c := range map[string]struct {
		r    api.Room
		x    api.Shape
		from int64
		want api.Slot
		e    api.Errno
	}{
		"the chapter's":                   {always(4, 100, 2), x, 5, api.Slot{S: 5, C: 8, O: 18}, api.OK},
		"as much as there is":             {always(4, 50, 1), x, 5, api.Slot{S: 5, C: 8, O: 18}, api.OK},
		"too few nodes":                   {always(3, 100, 2), x, 5, none, api.ErrNone},
		"too few bytes":                   {always(4, 49, 2), x, 5, none, api.ErrNone},
		"no lanes":                        {always(4, 100, 0), x, 5, none, api.ErrNone},
		"the last one":                    {always(4, 100, 2), x, top - 15, api.Slot{S: top - 15, C: top - 12, O: top - 2}, api.OK},
		"too late":                        {always(4, 100, 2), x, top - 14, none, api.ErrNone},
		"at Top":                          {always(4, 100, 2), x, top, none, api.ErrNone},
		"longer than all times":           {always(4, 100, 2), api.Shape{In: top, Wall: 1}, 0, none, api.ErrNone},
		"as long as all times":            {always(4, 100, 2), api.Shape{Wall: top, Bytes: 100, Nodes: 4}, 0, api.Slot{O: top}, api.OK},
		"three of Top":                    {always(4, 100, 2), api.Shape{In: top, Wall: top, Out: top}, 0, none, api.ErrNone},
		"nothing":                         {always(0, 0, 0), api.Shape{}, 7, api.Slot{S: 7, C: 7, O: 7}, api.OK},
		"nothing, at Top":                 {always(0, 0, 0), api.Shape{}, top, api.Slot{S: top, C: top, O: top}, api.OK},
		"no time, of more than there is":  {always(0, 0, 0), api.Shape{Nodes: 9, Bytes: 9, Lanes: 9}, 7, api.Slot{S: 7, C: 7, O: 7}, api.OK},
		"no lanes, nothing comes or goes": {always(4, 100, 0), api.Shape{Wall: 10, Nodes: 4, Bytes: 50, Lanes: 9}, 5, api.Slot{S: 5, C: 5, O: 15}, api.OK},
		"no nodes, no work":               {always(0, 100, 1), api.Shape{In: 2, Out: 3, Nodes: 9, Bytes: 50, Lanes: 1}, 5, api.Slot{S: 5, C: 7, O: 7}, api.OK},
		"the nodes are there later: the bytes from the begin on": {
			api.Room{Nodes: profile(0, 0, 30, 4), Bytes: profile(0, 100), Lanes: profile(0, 2)}, x, 5, api.Slot{S: 5, C: 30, O: 40}, api.OK},
		"the bytes are too few while the nodes are awaited": {
			api.Room{Nodes: profile(0, 0, 30, 4), Bytes: profile(0, 100, 20, 49, 25, 50), Lanes: profile(0, 2)}, x, 5, api.Slot{S: 25, C: 30, O: 40}, api.OK},
		"the bytes are there for a while, twice": {
			api.Room{Nodes: profile(0, 4), Bytes: profile(0, 0, 5, 50, 19, 0, 21, 50, 36, 0), Lanes: profile(0, 2)}, x, 0, api.Slot{S: 21, C: 24, O: 34}, api.OK},
		"the bytes are there for a while, never long enough": {
			api.Room{Nodes: profile(0, 4), Bytes: profile(0, 0, 5, 50, 19, 0, 21, 50, 35, 0), Lanes: profile(0, 2)}, x, 0, none, api.ErrNone},
		"In waits for a lane": {
			api.Room{Nodes: profile(0, 4), Bytes: profile(0, 100), Lanes: profile(0, 0, 7, 1, 9, 0, 11, 1)}, x, 0, api.Slot{S: 11, C: 14, O: 24}, api.OK},
		"Out waits for a lane": {
			api.Room{Nodes: profile(0, 4), Bytes: profile(0, 100), Lanes: profile(0, 1, 3, 0, 14, 1, 15, 0, 50, 1)}, x, 0, api.Slot{S: 0, C: 3, O: 50}, api.OK},
		"Out waits for a lane, the bytes do not": {
			api.Room{Nodes: profile(0, 4), Bytes: profile(0, 100, 49, 0, 50, 100), Lanes: profile(0, 1, 3, 0, 50, 1)}, x, 0, api.Slot{S: 50, C: 53, O: 63}, api.OK},
		"Out never gets a lane": {
			api.Room{Nodes: profile(0, 4), Bytes: profile(0, 100), Lanes: profile(0, 1, 9, 0)}, x, 0, none, api.ErrNone},
		"the nodes go": {
			api.Room{Nodes: profile(0, 4, 12, 3), Bytes: profile(0, 100), Lanes: profile(0, 1)}, x, 0, none, api.ErrNone},
		"the nodes go at the end of the work": {
			api.Room{Nodes: profile(0, 4, 13, 3), Bytes: profile(0, 100), Lanes: profile(0, 1)}, x, 0, api.Slot{S: 0, C: 3, O: 13}, api.OK},
		"the bytes wait for the begin, not the time that is asked": {
			api.Room{Nodes: profile(0, 4), Bytes: profile(0, 0, 6, 100), Lanes: profile(0, 0, 8, 1)}, x, 5, api.Slot{S: 8, C: 11, O: 21}, api.OK},
	} {
		if at, e := fit.Slot(c.r, c.x, c.from); at != c.want || e != c.e {
			t.Errorf("%s: Slot is %v, %d, not %v, %d", name, at, e, c.want, c.e)
		}
	}
}

// TestQueue takes one slot after the other: two share the lanes, a third one waits for the bytes.
func TestQueue(t *testing.T) { // P10.2, P10.3
	r, x := always(4, 100, 2), shape()
	for i, want := range []api.Slot{{S: 5, C: 8, O: 18}, {S: 5, C: 18, O: 28}, {S: 20, C: 28, O: 38}, {S: 30, C: 38, O: 48}} {
		at, e := fit.Slot(r, x, 5)
		if e != api.OK || at != want {
			t.Fatalf("%d: Slot is %v, %d, not %v", i, at, e, want)
		}
		if r, e = fit.Take(r, x, at); e != api.OK {
			t.Fatalf("%d: Take is %d", i, e)
		}
	}
	want := api.Room{
		Nodes: profile(0, 4, 8, 0, 48, 4),
		Bytes: profile(0, 100, 5, 0, 40, 50, 50, 100),
		Lanes: profile(0, 2, 5, 0, 8, 2, 18, 1, 23, 2, 28, 1, 33, 2, 38, 1, 40, 2, 48, 1, 50, 2),
	}
	if !equal(r, want) {
		t.Errorf("what is left is %v, not %v", r, want)
	}
}

// TestSlotOneByOne holds Slot and Is against the chapter's words, at the begin and at the end of all times.
func TestSlotOneByOne(t *testing.T) { // P10.2
	next := numbers()
	later, apart, none := 0, 0, 0
	for _, base := range bases(12) {
		for range 6000 {
			r, x, from := anyRoom(next, base, 12), anyShape(next), base+next(8)
			want, ok := firstSlot(r, x, from)
			at, e := fit.Slot(r, x, from)
			if ok != (e == api.OK) || !ok && e != api.ErrNone || at != want {
				t.Fatalf("Slot(%v, %v, %d) is %v, %d, not %v, %t", r, x, from, at, e, want, ok)
			}
			for range 30 {
				at := api.Slot{S: min(from+next(3), top), C: min(from+next(8), top), O: min(from+next(12), top)}
				if fit.Is(r, x, at) != isSlot(r, x, at) {
					t.Fatalf("Is(%v, %v, %v) is %t", r, x, at, !isSlot(r, x, at))
				}
			}
			if ok && at.S > from {
				later++
			}
			if at.C > at.S+x.In || at.O > at.C+x.Wall {
				apart++
			}
			if !ok {
				none++
			}
		}
	}
	if later < 1000 || apart < 1000 || none < 1000 {
		t.Error("few were found later, or with times between, or never:", later, apart, none)
	}
}

// TestLeast holds the first slot against all others: none has any of its three times earlier.
func TestLeast(t *testing.T) { // P10.4
	next := numbers()
	slots := 0
	for _, base := range bases(7) {
		for range 400 {
			r, x, from := anyRoom(next, base, 7), anyShape(next), base+next(4)
			first, e := fit.Slot(r, x, from)
			if e == api.OK && !fit.Is(r, x, first) {
				t.Fatalf("Slot(%v, %v, %d) is %v, which is none", r, x, from, first)
			}
			for at := range cube(from, min(from+12, top)) {
				if !fit.Is(r, x, at) {
					continue
				}
				slots++
				if e != api.OK || first.S > at.S || first.C > at.C || first.O > at.O {
					t.Fatalf("Slot(%v, %v, %d) is %v, %d, though %v is one", r, x, from, first, e, at)
				}
			}
		}
	}
	if slots < 10000 {
		t.Error("few slots:", slots)
	}
}

// cube produces all slots between two times.
func cube(from, to int64) func(func(api.Slot) bool) {
	return func(yield func(api.Slot) bool) {
		for s := from; s <= to; s++ {
			for c := from; c <= to; c++ {
				for o := from; o <= to; o++ {
					if !yield(api.Slot{S: s, C: c, O: o}) {
						return
					}
				}
			}
		}
	}
}

// notLater reports whether a first slot is not later than another one; if none is found, neither may the other one be.
func notLater(a api.Slot, e api.Errno, b api.Slot, f api.Errno) bool {
	return f != api.OK || e == api.OK && a.S <= b.S && a.C <= b.C && a.O <= b.O
}

// more returns a room with something more, for a while.
func more(next func(int64) int64, r api.Room, base int64) api.Room {
	r = clone(r)
	for i := range 3 {
		s := []*api.Steps{&r.Nodes, &r.Bytes, &r.Lanes}[i]
		from := base + next(10)
		if got, e := steps.Give(*s, from, min(from+next(8), top), next(3)); e == api.OK {
			*s = got
		}
	}
	return r
}

func TestLaterAndMore(t *testing.T) { // P10.4
	next := numbers()
	moved := 0
	for _, base := range bases(12) {
		for range 5000 {
			r, x, from := anyRoom(next, base, 12), anyShape(next), base+next(10)
			at, e := fit.Slot(r, x, from)
			if later, f := fit.Slot(r, x, from+1); !notLater(at, e, later, f) {
				t.Fatalf("in %v, of %v: from %d on %v, %d, from the next time on %v, %d", r, x, from, at, e, later, f)
			}
			wide := more(next, r, base)
			sooner, f := fit.Slot(wide, x, from)
			if !notLater(sooner, f, at, e) {
				t.Fatalf("in %v, of %v, from %d on: %v, %d, with more, %v, %v, %d", r, x, from, at, e, wide, sooner, f)
			}
			if f == api.OK && sooner != at {
				moved++
			}
		}
	}
	if moved < 500 {
		t.Error("more made few slots earlier:", moved)
	}
}

func TestTakeGive(t *testing.T) { // P10.3
	r, x := always(4, 100, 2), shape()
	loose := api.Room{Nodes: profile(0, 4, 9, 4), Bytes: profile(0, 100, 1, 100), Lanes: profile(0, 2, 18, 2)}
	for name, c := range map[string]struct {
		r    api.Room
		x    api.Shape
		at   api.Slot
		want api.Room
	}{
		"the chapter's": {r, x, api.Slot{S: 5, C: 8, O: 18},
			api.Room{Nodes: profile(0, 4, 8, 0, 18, 4), Bytes: profile(0, 100, 5, 50, 20, 100), Lanes: profile(0, 2, 5, 1, 8, 2, 18, 1, 20, 2)}},
		"not normal": {loose, x, api.Slot{S: 5, C: 8, O: 18},
			api.Room{Nodes: profile(0, 4, 8, 0, 18, 4), Bytes: profile(0, 100, 5, 50, 20, 100), Lanes: profile(0, 2, 5, 1, 8, 2, 18, 1, 20, 2)}},
		"with times between": {r, x, api.Slot{S: 0, C: 20, O: 40},
			api.Room{Nodes: profile(0, 4, 20, 0, 30, 4), Bytes: profile(0, 50, 42, 100), Lanes: profile(0, 1, 3, 2, 40, 1, 42, 2)}},
		"no slot: In and Out at a time, the work before them": {r, x, api.Slot{S: 30, C: 2, O: 31},
			api.Room{Nodes: profile(0, 4, 2, 0, 12, 4), Bytes: profile(0, 100, 30, 50, 33, 100), Lanes: profile(0, 2, 30, 1, 31, 0, 33, 2)}},
		"no slot: Out ends before In begins, so no bytes": {r, x, api.Slot{S: 30, C: 2, O: 7},
			api.Room{Nodes: profile(0, 4, 2, 0, 12, 4), Bytes: profile(0, 100), Lanes: profile(0, 2, 7, 1, 9, 2, 30, 1, 33, 2)}},
		"Out ends when In begins": {r, x, api.Slot{S: 9, C: 2, O: 7},
			api.Room{Nodes: profile(0, 4, 2, 0, 12, 4), Bytes: profile(0, 100), Lanes: profile(0, 2, 7, 1, 12, 2)}},
		"ends above Top": {r, x, api.Slot{S: top - 2, C: top - 9, O: top - 1},
			api.Room{Nodes: profile(0, 4, top-9, 0, top, 4), Bytes: profile(0, 100, top-2, 50, top, 100), Lanes: profile(0, 2, top-2, 1, top-1, 0, top, 2)}},
		"all at Top": {r, x, api.Slot{S: top, C: top, O: top}, r},
		"the longest": {r, api.Shape{In: top, Wall: top, Out: top, Nodes: 1, Bytes: 1, Lanes: 1}, api.Slot{S: 1, C: 2, O: 3},
			api.Room{Nodes: profile(0, 4, 2, 3, top, 4), Bytes: profile(0, 100, 1, 99, top, 100), Lanes: profile(0, 2, 1, 1, 3, 0, top, 2)}},
		"no time":             {loose, api.Shape{Nodes: 9, Bytes: 999, Lanes: 9}, api.Slot{S: 5, C: 5, O: 5}, r},
		"no time, but bytes":  {loose, api.Shape{Nodes: 9, Bytes: 30, Lanes: 9}, api.Slot{S: 5, C: 5, O: 8}, api.Room{Nodes: profile(0, 4), Bytes: profile(0, 100, 5, 70, 8, 100), Lanes: profile(0, 2)}},
		"none of anything":    {loose, api.Shape{In: 3, Wall: 10, Out: 2}, api.Slot{S: 5, C: 8, O: 18}, r},
		"as much as there is": {r, api.Shape{In: 3, Wall: 10, Out: 2, Nodes: 4, Bytes: 100, Lanes: 2}, api.Slot{S: 0, C: 3, O: 13}, api.Room{Nodes: profile(0, 4, 3, 0, 13, 4), Bytes: profile(0, 0, 15, 100), Lanes: profile(0, 0, 3, 2, 13, 0, 15, 2)}},
	} {
		got, e := fit.Take(c.r, c.x, c.at)
		if e != api.OK || !equal(got, c.want) {
			t.Errorf("%s: Take is %v, %d, not %v", name, got, e, c.want)
		}
		back, e := fit.Give(c.want, c.x, c.at)
		if e != api.OK || !equal(back, always(4, 100, 2)) {
			t.Errorf("%s: Give is %v, %d", name, back, e)
		}
	}
}

// full fails where a call with a slot does not return ErrFull.
func full(t *testing.T, what string, got api.Room, e api.Errno) {
	t.Helper()
	if e != api.ErrFull || !empty(got) {
		t.Errorf("%s is %v, %d", what, got, e)
	}
}

func TestFull(t *testing.T) { // P10.3
	x, at := shape(), api.Slot{S: 5, C: 8, O: 18}
	if _, e := fit.Take(always(4, 50, 1), x, at); e != api.OK {
		t.Error("Take of all is", e)
	}
	if _, e := fit.Give(always(top-4, top-50, top-1), x, at); e != api.OK {
		t.Error("Give of as many as can be is", e)
	}
	for _, c := range []struct {
		of  func(r *api.Room) *api.Steps
		one int64 // a time at which there is one less than is needed, or one more than can be
	}{
		{func(r *api.Room) *api.Steps { return &r.Nodes }, 8},
		{func(r *api.Room) *api.Steps { return &r.Nodes }, 17},
		{func(r *api.Room) *api.Steps { return &r.Bytes }, 5},
		{func(r *api.Room) *api.Steps { return &r.Bytes }, 19},
		{func(r *api.Room) *api.Steps { return &r.Lanes }, 5},
		{func(r *api.Room) *api.Steps { return &r.Lanes }, 7},
		{func(r *api.Room) *api.Steps { return &r.Lanes }, 18},
		{func(r *api.Room) *api.Steps { return &r.Lanes }, 19},
	} {
		less, more := always(4, 50, 1), always(top-4, top-50, top-1)
		*c.of(&less), _ = steps.Take(*c.of(&less), c.one, c.one+1, 1)
		got, e := fit.Take(less, x, at)
		full(t, "Take of more than there is", got, e)
		*c.of(&more), _ = steps.Give(*c.of(&more), c.one, c.one+1, 1)
		got, e = fit.Give(more, x, at)
		full(t, "Give of more than can be", got, e)
	}
	both := api.Shape{In: 5, Out: 5, Lanes: 1} // a lane is enough for each of In and Out, not for both
	got, e := fit.Take(always(1, 1, 1), both, api.Slot{S: 2, C: 6, O: 6})
	full(t, "Take of both on a lane", got, e)
	got, e = fit.Give(always(1, 1, top-1), both, api.Slot{S: 2, C: 6, O: 6})
	full(t, "Give of both", got, e)
}

// room returns one in which each profile is s.
func room(s api.Steps) api.Room {
	return api.Room{Nodes: cloneSteps(s), Bytes: cloneSteps(s), Lanes: cloneSteps(s)}
}

// TestMaxSteps has profiles of as many steps as there can be. In and Out meet at a time: how many steps there are in between shows which one is first.
func TestMaxSteps(t *testing.T) { // P10.3
	x := api.Shape{In: 10, Wall: 0, Out: 5, Lanes: 3}
	at := api.Slot{S: 100, C: 110, O: 110}
	s := many(most+1, 10, 5, 7, 9)
	s.At, s.N = slices.Delete(s.At, 11, 12), slices.Delete(s.N, 11, 12) // no step at 110
	up, down := cloneSteps(s), cloneSteps(s)
	up.N[9], down.N[9] = s.N[10]-3, s.N[10]+3 // a step at 100 that goes; one at 110 comes, and goes, and one at 115 comes
	for _, c := range []struct {
		name string
		s    api.Steps
		do   func(api.Room, api.Shape, api.Slot) (api.Room, api.Errno)
	}{{"Take", up, fit.Take}, {"Give", down, fit.Give}} {
		got, e := c.do(room(c.s), x, at)
		if e != api.OK || len(got.Lanes.At) != most || len(got.Nodes.At) != most || steps.Check(got.Lanes) != api.OK {
			t.Errorf("%s is of %d steps, %d", c.name, len(got.Lanes.At), e)
		}
		for name, y := range map[string]api.Shape{
			"of lanes, in":  {In: 5, Lanes: 1},
			"of lanes, out": {Out: 5, Lanes: 1},
			"of nodes":      {Wall: 5, Nodes: 1},
			"of bytes":      {Wall: 5, Bytes: 1},
		} {
			got, e := c.do(room(c.s), y, api.Slot{S: 201, C: 201, O: 206})
			if name == "of lanes, out" {
				got, e = c.do(room(c.s), y, api.Slot{S: 201, C: 201, O: 201})
			}
			full(t, c.name+" with two steps too many, "+name, got, e)
		}
	}
}

// TestBack takes slots, and others, and gives them back.
func TestBack(t *testing.T) { // P10.5
	next := numbers()
	slots, others := 0, 0
	for _, base := range bases(12) {
		for range 6000 {
			r, x := anyRoom(next, base, 12), anyShape(next)
			at, e := fit.Slot(r, x, base+next(10))
			if e != api.OK || next(4) == 0 {
				at = api.Slot{S: base + next(12), C: base + next(12), O: base + next(12)}
			}
			took, e := fit.Take(r, x, at)
			if e != api.OK {
				if fit.Is(r, x, at) {
					t.Fatalf("Take(%v, %v, %v) is %d", r, x, at, e)
				}
				continue
			}
			if steps.Check(took.Nodes) != api.OK || steps.Check(took.Bytes) != api.OK || steps.Check(took.Lanes) != api.OK {
				t.Fatalf("Take(%v, %v, %v) is %v", r, x, at, took)
			}
			back, e := fit.Give(took, x, at)
			if e != api.OK || !same(back, r) {
				t.Fatalf("Give(%v, %v, %v) is %v, %d, not %v", took, x, at, back, e, r)
			}
			if fit.Is(r, x, at) {
				slots++
			} else {
				others++
			}
		}
	}
	if slots < 2000 || others < 200 {
		t.Error("few were taken:", slots, others)
	}
}

// part returns n if a time is in a window, 0 otherwise.
func part(at, from, long, n int64) int64 {
	if from <= at && at < min(from+long, top) {
		return n
	}
	return 0
}

// taken is the chapter's words: how many nodes, bytes and lanes the windows have at a time.
func taken(x api.Shape, s api.Slot, at int64) [3]int64 {
	return [3]int64{
		part(at, s.C, x.Wall, x.Nodes),
		part(at, s.S, s.O+x.Out-s.S, x.Bytes),
		part(at, s.S, x.In, x.Lanes) + part(at, s.O, x.Out, x.Lanes),
	}
}

// TestEachTime holds what Take and Give make against the chapter's words, at each time.
func TestEachTime(t *testing.T) { // P10.3
	next := numbers()
	done := 0
	for _, base := range bases(14) {
		for range 4000 {
			r, x := anyRoom(next, base, 10), anyShape(next)
			s := api.Slot{S: base + next(8), C: base + next(12), O: base + next(12)}
			for i, do := range []func(api.Room, api.Shape, api.Slot) (api.Room, api.Errno){fit.Take, fit.Give} {
				got, e := do(r, x, s)
				least := int64(0)
				for at := base; at < base+14; at++ {
					n := taken(x, s, at)
					for k, p := range []api.Steps{r.Nodes, r.Bytes, r.Lanes} {
						want := number(p, at) + int64(2*i-1)*n[k]
						least = min(least, want)
						if after := number([]api.Steps{got.Nodes, got.Bytes, got.Lanes}[k], at); e == api.OK && after != want {
							t.Fatalf("call %d (%v, %v, %v) is %v: profile %d at %d not %d", i, r, x, s, got, k, at, want)
						}
					}
				}
				if e == api.OK && least == 0 {
					done++
				} else if e != api.ErrFull || least == 0 || !empty(got) {
					t.Fatalf("call %d (%v, %v, %v) is %v, %d", i, r, x, s, got, e)
				}
			}
		}
	}
	if done < 4000 {
		t.Error("few were possible:", done)
	}
}

// TestGreat has profiles of as many steps as there can be, which let a search begin anew at each of them.
func TestGreat(t *testing.T) { // P10.2
	x := api.Shape{In: 1, Wall: 11, Out: 1, Nodes: 1, Bytes: 1, Lanes: 1}
	last := many(most, 10, 0, 1)
	last.N[most-1] = 1
	for name, c := range map[string]struct {
		r    api.Room
		want api.Slot
	}{
		"nodes": {api.Room{Nodes: last, Bytes: profile(0, 1), Lanes: profile(0, 1)}, api.Slot{S: 0, C: 19990, O: 20001}},
		"bytes": {api.Room{Nodes: profile(0, 1), Bytes: last, Lanes: profile(0, 1)}, api.Slot{S: 19990, C: 19991, O: 20002}},
		"lanes": {api.Room{Nodes: profile(0, 1), Bytes: profile(0, 1), Lanes: last}, api.Slot{S: 10, C: 11, O: 30}},
		"all":   {room(last), api.Slot{S: 19990, C: 19991, O: 20002}},
	} {
		for range 100 {
			if at, e := fit.Slot(c.r, x, 0); e != api.OK || at != c.want {
				t.Fatalf("%s: Slot is %v, %d, not %v", name, at, e, c.want)
			}
			if !fit.Is(c.r, x, c.want) {
				t.Fatalf("%s: Is of %v is false", name, c.want)
			}
		}
	}
	never := room(many(most, 10, 1, 0))
	never.Nodes.At[most-1] = top
	for range 100 {
		if at, e := fit.Slot(never, x, 0); e != api.ErrNone || at != (api.Slot{}) {
			t.Fatalf("Slot is %v, %d", at, e)
		}
		if at, e := fit.First(never.Lanes, 0, 11, 1); e != api.ErrNone || at != 0 {
			t.Fatalf("First is %d, %d", at, e)
		}
	}
}

// TestAnything calls all with the greatest, the least and other numbers: it must only end.
func TestAnything(t *testing.T) { // P10.1, P10.2, P10.3
	l := []int64{math.MinInt64, math.MinInt64 + 1, -1, 0, 1, top - 1, top, top + 1, math.MaxInt64 - 1, math.MaxInt64}
	next := numbers()
	some := func() int64 { return l[next(int64(len(l)))] }
	row := func() api.Steps {
		if next(2) == 0 {
			return profile(0, next(3), 1+next(3), next(3))
		}
		var s api.Steps
		for range next(4) {
			s.At = append(s.At, some())
		}
		for range next(4) {
			s.N = append(s.N, some())
		}
		return s
	}
	for range 20000 {
		r := api.Room{Nodes: row(), Bytes: row(), Lanes: row()}
		x := api.Shape{In: some(), Wall: some(), Out: some(), Nodes: some(), Bytes: some(), Lanes: some()}
		at := api.Slot{S: some(), C: some(), O: some()}
		fit.First(r.Nodes, at.S, x.In, x.Nodes)
		fit.Is(r, x, at)
		fit.Slot(r, x, at.S)
		fit.Take(r, x, at)
		fit.Give(r, x, at)
	}
}

// lists returns all lists of a room, as far as they are filled.
func lists(r api.Room) [][]int64 {
	return [][]int64{r.Nodes.At, r.Nodes.N, r.Bytes.At, r.Bytes.N, r.Lanes.At, r.Lanes.N}
}

// memory returns all lists of a room, with their spare capacity.
func memory(r api.Room) [][]int64 {
	l := lists(r)
	for i := range l {
		l[i] = l[i][:cap(l[i])]
	}
	return l
}

func cloneLists(l [][]int64) [][]int64 {
	var c [][]int64
	for _, x := range l {
		c = append(c, slices.Clone(x))
	}
	return c
}

// spoil writes over all memory of a list, its spare capacity too.
func spoil(l []int64) {
	l = l[:cap(l)]
	for i := range l {
		l[i] = -77
	}
}

// spare returns a room with spare capacity, in which something is.
func spare(r api.Room) api.Room {
	wide := func(l []int64) []int64 { return append(slices.Clone(l), 71, 72, 73, 74, 75)[:len(l)] }
	for _, s := range []*api.Steps{&r.Nodes, &r.Bytes, &r.Lanes} {
		s.At, s.N = wide(s.At), wide(s.N)
	}
	return r
}

// TestMemory holds that arguments, and what is behind them in their memory, stay as they are, and that results have memory of their own.
func TestMemory(t *testing.T) { // P10.1, P10.2, P10.3
	r := spare(api.Room{Nodes: profile(0, 4, 9, 5), Bytes: profile(0, 100, 20, 90), Lanes: profile(0, 2)})
	before := cloneLists(memory(r))
	for _, x := range []api.Shape{shape(), {}, {Wall: 3, Nodes: 1}, {In: 3, Lanes: 1}, {Out: 3, Bytes: 9}, {In: 2, Nodes: 99, Lanes: 9}} {
		for _, at := range []api.Slot{{S: 5, C: 8, O: 18}, {}, {S: 9, C: 20, O: 3}, {S: top, C: top, O: top}} {
			fit.First(r.Nodes, at.S, x.Wall, x.Nodes)
			fit.Is(r, x, at)
			fit.Slot(r, x, at.S)
			for i, do := range []func(api.Room, api.Shape, api.Slot) (api.Room, api.Errno){fit.Take, fit.Give} {
				a, e := do(r, x, at)
				b, f := do(r, x, at)
				if e != f {
					t.Fatalf("call %d: %d, then %d", i, e, f)
				}
				whole := cloneLists(lists(b))
				for _, l := range lists(a) {
					spoil(l)
				}
				for k, l := range lists(b) { // each list is spoilt when it has been looked at
					if !slices.Equal(l, whole[k]) {
						t.Errorf("call %d: list %d shares memory", i, k)
					}
					spoil(l)
				}
			}
			for k, l := range memory(r) {
				if !slices.Equal(l, before[k]) {
					t.Fatalf("a call with %v, %v changed its argument: %v, not %v", x, at, l, before[k])
				}
			}
		}
	}
}

package steps_test

import (
	"math"
	"slices"
	"testing"

	"forebay/api"
	"forebay/steps"
)

const top = 1 << 40 // written out, so that a wrong limit does not agree with itself

// profile returns one from pairs: a time, and how many there are from then on.
func profile(pairs ...int64) api.Steps {
	var s api.Steps
	for i := 0; i+1 < len(pairs); i += 2 {
		s.At = append(s.At, pairs[i])
		s.N = append(s.N, pairs[i+1])
	}
	return s
}

// many returns a profile of n steps, each so long; the numbers are in turn those of l.
func many(n int, long int64, l ...int64) api.Steps {
	var s api.Steps
	for i := range n {
		s.At = append(s.At, int64(i)*long)
		s.N = append(s.N, l[i%len(l)])
	}
	return s
}

func clone(s api.Steps) api.Steps {
	return api.Steps{At: slices.Clone(s.At), N: slices.Clone(s.N)}
}

func equal(a, b api.Steps) bool {
	return slices.Equal(a.At, b.At) && slices.Equal(a.N, b.N)
}

// number is the chapter's own wording: N[i], for the last i whose At is not above t.
func number(s api.Steps, t int64) int64 {
	n := int64(-1)
	for i := range s.At {
		if s.At[i] <= t {
			n = s.N[i]
		}
	}
	return n
}

// times are those at which the profiles of some have steps, and those next to them.
func times() []int64 {
	return []int64{0, 1, 2, 3, top - 1, top}
}

// some returns all profiles with steps at 0 and at some of 1, 2 and Top; neighbours may be equal.
func some() []api.Steps {
	var l []api.Steps
	starts := []int64{1, 2, top}
	for set := range 8 {
		row := []api.Steps{profile(0, 0), profile(0, 1), profile(0, 3), profile(0, top)}
		for i, at := range starts {
			if set>>i&1 == 0 {
				continue
			}
			var next []api.Steps
			for _, s := range row {
				for _, n := range []int64{0, 1, 3, top} {
					next = append(next, api.Steps{At: append(slices.Clone(s.At), at), N: append(slices.Clone(s.N), n)})
				}
			}
			row = next
		}
		l = append(l, row...)
	}
	return l
}

// wrong returns profiles that are not valid.
func wrong() map[string]api.Steps {
	return map[string]api.Steps{
		"nil":                            {},
		"empty":                          {At: []int64{}, N: []int64{}},
		"numbers alone":                  {N: []int64{1}},
		"times alone":                    {At: []int64{0}},
		"a number too few":               {At: []int64{0, 4}, N: []int64{1}},
		"a number too many":              {At: []int64{0}, N: []int64{1, 2}},
		"begins at 1":                    profile(1, 1),
		"begins below 0":                 profile(-1, 1),
		"begins below 0, then at 0":      profile(-1, 1, 0, 2),
		"a time twice":                   profile(0, 1, 0, 2),
		"a time twice, later":            profile(0, 1, 5, 2, 5, 3),
		"a time that goes back":          profile(0, 1, 5, 2, 4, 3),
		"a time below 0":                 profile(0, 1, -5, 2),
		"a time above Top":               profile(0, 1, top+1, 2),
		"the greatest time of all":       profile(0, 1, math.MaxInt64, 2),
		"the least time of all":          profile(0, 1, math.MinInt64, 2),
		"a time above Top, one below it": profile(0, 1, top+1, 2, 7, 3),
		"a number below 0":               profile(0, -1),
		"a number below 0, at the end":   profile(0, 1, 5, -1),
		"a number below 0, in between":   profile(0, 1, 5, -1, 6, 1),
		"a number above Top":             profile(0, top+1),
		"a number above Top, at the end": profile(0, 1, 5, top+1),
		"the greatest number":            profile(0, math.MaxInt64),
		"the least number":               profile(0, math.MinInt64),
		"2001 steps":                     many(2001, 1, 1, 2),
		"2001 equal steps":               many(2001, 1, 1),
		"100000 steps":                   many(100000, 1, 1, 2),
	}
}

// outside are numbers that are not quantities.
func outside() []int64 {
	return []int64{math.MinInt64, -top, -1, top + 1, 2 * top, math.MaxInt64}
}

func TestNew(t *testing.T) { // P4.1
	for _, c := range []struct{ n, want int64 }{
		{5, 5}, {0, 0}, {1, 1}, {-1, 0}, {math.MinInt64, 0}, {top - 1, top - 1}, {top, top}, {top + 1, top}, {math.MaxInt64, top},
	} {
		if s := steps.New(c.n); !equal(s, profile(0, c.want)) || steps.Check(s) != api.OK {
			t.Errorf("New(%d) is %v", c.n, s)
		}
	}
	a, b := steps.New(5), steps.New(5)
	a.At[0], a.N[0] = 8, 9
	if !equal(b, profile(0, 5)) || !equal(steps.New(5), profile(0, 5)) {
		t.Error("two of New's profiles share memory")
	}
}

func TestCheck(t *testing.T) { // P4.1
	for name, s := range wrong() {
		if e := steps.Check(s); e != api.ErrArg {
			t.Errorf("%s: Check is %d", name, e)
		}
	}
	for name, s := range map[string]api.Steps{
		"one step":               profile(0, 7),
		"none at all":            profile(0, 0),
		"Top":                    profile(0, top),
		"a step at Top":          profile(0, 3, top, 4),
		"steps next to another":  profile(0, 3, 1, 4, 2, 3, top-1, 0, top, top),
		"equal neighbours":       profile(0, 3, 5, 3, 6, 3),
		"2000 steps":             many(2000, 1, 1, 2),
		"2000 equal steps":       many(2000, 1, 1),
		"2000 steps, far apart":  many(2000, top/2000, 0, top),
		"with spare capacity":    {At: append(make([]int64, 0, 9), 0, 4), N: append(make([]int64, 0, 5), 1, 2)},
		"what follows is no one": {At: []int64{0, 4, 3, -1}[:2], N: []int64{1, 2, -9, top + 1}[:2]},
	} {
		if e := steps.Check(s); e != api.OK {
			t.Errorf("%s: Check is %d", name, e)
		}
	}
	for _, s := range some() {
		if e := steps.Check(s); e != api.OK {
			t.Errorf("%v: Check is %d", s, e)
		}
	}
}

func TestAt(t *testing.T) { // P4.2
	s := profile(0, 5, 2, 2, 4, 7, top, 1)
	for _, c := range []struct{ at, want int64 }{
		{0, 5}, {1, 5}, {2, 2}, {3, 2}, {4, 7}, {5, 7}, {top - 1, 7}, {top, 1},
	} {
		if n := steps.At(s, c.at); n != c.want {
			t.Errorf("At(%d) is %d, not %d", c.at, n, c.want)
		}
	}
	for _, s := range some() {
		for _, at := range times() {
			if n := steps.At(s, at); n != number(s, at) {
				t.Errorf("At(%v, %d) is %d", s, at, n)
			}
		}
	}
	for _, at := range outside() {
		if n := steps.At(s, at); n != 0 {
			t.Errorf("At(%d), which is no quantity, is %d", at, n)
		}
	}
	for name, s := range wrong() {
		for _, at := range append(times(), outside()...) {
			if n := steps.At(s, at); n != 0 {
				t.Errorf("%s: At(%d) is %d", name, at, n)
			}
		}
	}
}

func TestLeast(t *testing.T) { // P4.2
	s := profile(0, 5, 2, 2, 4, 7, 9, 6, top, 1)
	for _, c := range []struct{ from, to, want int64 }{
		{0, 1, 5}, {0, 2, 5}, {0, 3, 2}, {1, 2, 5}, {1, 9, 2}, {2, 3, 2}, {2, 4, 2}, {3, 4, 2}, {3, 5, 2}, {4, 9, 7}, {4, 10, 6}, {5, 6, 7}, {9, top, 6}, {top - 1, top, 6}, {0, top, 2},
		{0, 0, top}, {4, 4, top}, {3, 3, top}, {5, 4, top}, {9, 0, top}, {top, top, top}, {top, 0, top}, // no time
	} {
		if n := steps.Least(s, c.from, c.to); n != c.want {
			t.Errorf("Least(%d, %d) is %d, not %d", c.from, c.to, n, c.want)
		}
	}
	for name, s := range wrong() {
		for _, from := range []int64{0, 5} {
			if n := steps.Least(s, from, 5); n != 0 {
				t.Errorf("%s: Least(%d, 5) is %d", name, from, n)
			}
		}
	}
	for _, no := range outside() {
		for _, c := range [][2]int64{{no, 5}, {0, no}, {no, no}} {
			if n := steps.Least(s, c[0], c[1]); n != 0 {
				t.Errorf("Least(%d, %d), which are no quantities, is %d", c[0], c[1], n)
			}
		}
	}
}

// TestLeastIsThere holds Least against At: no number in the window is below it, and one is equal.
func TestLeastIsThere(t *testing.T) { // P4.2
	for _, s := range some() {
		for _, from := range times() {
			for _, to := range times() {
				want := int64(top)
				for _, at := range times() {
					if from <= at && at < to {
						want = min(want, number(s, at))
					}
				}
				if n := steps.Least(s, from, to); n != want {
					t.Errorf("Least(%v, %d, %d) is %d, not %d", s, from, to, n, want)
				}
			}
		}
	}
}

// call is one of Take and Give.
type call struct {
	name string
	do   func(s api.Steps, from, to, n int64) (api.Steps, api.Errno)
	sign int64 // of what n adds to each number
}

func calls() []call {
	return []call{{"Take", steps.Take, -1}, {"Give", steps.Give, 1}}
}

func TestTake(t *testing.T) { // P4.3
	a := profile(0, 5, 2, 2, 4, 5)
	loose := profile(0, 5, 1, 5, 3, 4, 6, 4, 7, 4, 9, 5)
	for i, c := range []struct {
		s           api.Steps
		from, to, n int64
		want        api.Steps
	}{
		{steps.New(5), 2, 4, 3, a},
		{steps.New(5), 0, 4, 5, profile(0, 0, 4, 5)},
		{steps.New(5), 0, top, 1, profile(0, 4, top, 5)}, // Top itself is not before Top
		{steps.New(5), top - 1, top, 1, profile(0, 5, top-1, 4, top, 5)},
		{steps.New(top), 1, 2, top, profile(0, top, 1, 0, 2, top)},
		{a, 0, 2, 3, profile(0, 2, 4, 5)},
		{a, 4, 6, 3, profile(0, 5, 2, 2, 6, 5)},
		{a, 2, 4, 2, profile(0, 5, 2, 0, 4, 5)},
		{a, 1, 5, 2, profile(0, 5, 1, 3, 2, 0, 4, 3, 5, 5)},
		{a, 3, 9, 1, profile(0, 5, 2, 2, 3, 1, 4, 4, 9, 5)},
		{a, 3, 3, 9, a},       // no time: there need not be so many
		{a, 9, 1, top, a},     // nor here
		{a, top, top, top, a}, // nor here
		{a, top, 0, top, a},   // nor here
		{a, 1, 9, 0, a},
		{loose, 9, 9, 9, profile(0, 5, 3, 4, 9, 5)},
		{loose, 5, 8, 0, profile(0, 5, 3, 4, 9, 5)},
		{loose, 0, 3, 1, profile(0, 4, 9, 5)},
		{loose, 6, 7, 4, profile(0, 5, 3, 4, 6, 0, 7, 4, 9, 5)},
		{profile(0, 5, top, 4), 3, top, 1, profile(0, 5, 3, 4)},
	} {
		got, e := steps.Take(c.s, c.from, c.to, c.n)
		if e != api.OK || !equal(got, c.want) {
			t.Errorf("%d: Take is %v, %d, not %v", i, got, e, c.want)
		}
	}
}

func TestGive(t *testing.T) { // P4.3
	a := profile(0, 5, 2, 2, 4, 5)
	for i, c := range []struct {
		s           api.Steps
		from, to, n int64
		want        api.Steps
	}{
		{a, 2, 4, 3, steps.New(5)},
		{a, 2, 3, 3, profile(0, 5, 3, 2, 4, 5)},
		{a, 3, 4, 3, profile(0, 5, 2, 2, 3, 5)},
		{a, 0, top, 1, profile(0, 6, 2, 3, 4, 6, top, 5)},
		{a, 9, 8, top, a},
		{a, 8, 8, top, a},
		{a, 8, 9, 0, a},
		{a, 8, 9, top - 5, profile(0, 5, 2, 2, 4, 5, 8, top, 9, 5)},
		{steps.New(0), 0, top, top, profile(0, top, top, 0)},
		{profile(0, 1, 3, 1, 5, 1), 3, 5, 1, profile(0, 1, 3, 2, 5, 1)},
	} {
		got, e := steps.Give(c.s, c.from, c.to, c.n)
		if e != api.OK || !equal(got, c.want) {
			t.Errorf("%d: Give is %v, %d, not %v", i, got, e, c.want)
		}
	}
}

func refuse(t *testing.T, name string, got api.Steps, e, want api.Errno) {
	t.Helper()
	if e != want || got.At != nil || got.N != nil {
		t.Errorf("%s is %v, %d, not none, %d", name, got, e, want)
	}
}

func TestFull(t *testing.T) { // P4.3
	a := profile(0, 5, 2, 2, 4, 5)
	for _, c := range [][3]int64{{3, 9, 3}, {2, 4, 3}, {2, 3, 3}, {3, 4, 3}, {0, 3, 3}, {0, top, 3}, {0, 1, 6}, {4, 5, 6}, {top - 1, top, 6}, {0, 1, top}} {
		got, e := steps.Take(a, c[0], c[1], c[2])
		refuse(t, "Take of too many", got, e, api.ErrFull)
	}
	b := profile(0, top-5, 2, top-2, 4, top-5, top, top)
	for _, c := range [][3]int64{{3, 9, 3}, {2, 4, 3}, {2, 3, 3}, {3, 4, 3}, {0, 3, 3}, {0, top, 3}, {0, 1, 6}, {4, 5, 6}, {top - 1, top, 6}, {0, 1, top}} {
		got, e := steps.Give(b, c[0], c[1], c[2])
		refuse(t, "Give of too many", got, e, api.ErrFull)
	}
}

func TestWrong(t *testing.T) { // P4.3
	for _, c := range calls() {
		for name, s := range wrong() {
			for _, x := range [][3]int64{{0, 1, 0}, {0, 1, 1}, {0, 1, top}, {1, 0, 1}, {-1, 1, 1}} {
				got, e := c.do(s, x[0], x[1], x[2])
				refuse(t, c.name+": "+name, got, e, api.ErrArg)
			}
		}
		for _, no := range outside() {
			for _, x := range [][3]int64{{no, 1, 1}, {0, no, 1}, {0, 1, no}, {no, no, no}, {1, 0, no}, {no, 0, 0}, {9, no, 0}, {0, no, top}} { // windows of no time, and numbers that would be refused, too
				got, e := c.do(steps.New(5), x[0], x[1], x[2])
				refuse(t, c.name+" of what is no quantity", got, e, api.ErrArg)
			}
		}
	}
}

// TestMaxSteps counts the steps of what results, not of what it is made from.
func TestMaxSteps(t *testing.T) { // P4.3
	for _, c := range calls() {
		for _, x := range []struct {
			name        string
			s           api.Steps
			from, to, n int64
			want        int // steps; 0: too many
		}{
			{"two more than 2000", many(2000, 10, 5, 7), 21, 29, 1, 0},
			{"one more than 2000", many(2000, 10, 5, 7), 20, 29, 1, 0},
			{"one more than 2000, at the other end", many(2000, 10, 5, 7), 21, 30, 1, 0},
			{"one more than 2000, behind all", many(2000, 10, 5, 7), 30000, top, 0, 2000},
			{"two more, behind all", many(2000, 10, 5, 7), 30000, 30001, 1, 0},
			{"as many", many(2000, 10, 5, 7), 20, 30, 1, 2000},
			{"no time", many(2000, 10, 5, 7), 29, 21, 1, 2000},
			{"nothing", many(2000, 10, 5, 7), 21, 29, 0, 2000},
			{"two more than 1998", many(1998, 10, 5, 7), 21, 29, 1, 2000},
			{"two more than 1999", many(1999, 10, 5, 7), 21, 29, 1, 0},
			{"one more than 1999", many(1999, 10, 5, 7), 20, 29, 1, 2000},
			{"2000 equal steps", many(2000, 10, 5), 21, 29, 1, 3},
			{"2000 steps, every second one equal", many(2000, 10, 5, 5, 7, 7), 11, 19, 1, 1002},
		} {
			got, e := c.do(x.s, x.from, x.to, x.n)
			if x.want == 0 {
				refuse(t, c.name+": "+x.name, got, e, api.ErrFull)
			} else if e != api.OK || len(got.At) != x.want || len(got.N) != x.want || steps.Check(got) != api.OK {
				t.Errorf("%s: %s: %d and %d steps, %d", c.name, x.name, len(got.At), len(got.N), e)
			}
		}
	}
	raised := many(2000, 10, 5, 7)
	raised.N[1000] = 9 // 1000 is between two 7; 2 less there leaves all three equal
	if got, e := steps.Take(raised, 10000, 10010, 2); e != api.OK || len(got.At) != 1998 {
		t.Error("two fewer than 2000:", len(got.At), e)
	}
	if got, e := steps.Take(raised, 10000, 10005, 2); e != api.OK || len(got.At) != 2000 {
		t.Error("one cut and one joint in 2000:", len(got.At), e)
	}
}

// normal reports whether s is a valid profile in which neighbours differ.
func normal(s api.Steps) bool {
	return steps.Check(s) == api.OK && len(slices.Compact(slices.Clone(s.N))) == len(s.N)
}

// hold holds what a call made of s against the chapter's words, at each of the times.
func hold(t *testing.T, c call, s api.Steps, from, to, n int64, at []int64) {
	t.Helper()
	want := api.OK
	for _, x := range at {
		if m := number(s, x) + c.sign*n; from <= x && x < to && (m < 0 || m > top) {
			want = api.ErrFull
		}
	}
	got, e := c.do(s, from, to, n)
	if want != api.OK {
		refuse(t, c.name, got, e, want)
		return
	}
	if e != api.OK || !normal(got) {
		t.Fatalf("%s(%v, %d, %d, %d) is %v, %d", c.name, s, from, to, n, got, e)
	}
	for _, x := range at {
		m := number(s, x)
		if from <= x && x < to {
			m += c.sign * n
		}
		if number(got, x) != m || steps.At(got, x) != m {
			t.Errorf("%s(%v, %d, %d, %d) is %v: at %d not %d", c.name, s, from, to, n, got, x, m)
		}
	}
}

func TestEachTime(t *testing.T) { // P4.3, P4.5: outside of the window nothing changes
	for _, s := range some() {
		for _, from := range times() {
			for _, to := range times() {
				for _, n := range []int64{0, 1, 2, 3, top - 3, top - 1, top} {
					for _, c := range calls() {
						hold(t, c, s, from, to, n, times())
					}
				}
			}
		}
	}
}

// numbers returns a function that answers other numbers below most each time, the same ones in each run.
func numbers() func(most int64) int64 {
	state := uint64(1)
	return func(most int64) int64 {
		state = state*6364136223846793005 + 1442695040888963407
		return int64(state >> 33 % uint64(most))
	}
}

// TestLongWalk changes one profile very often.
func TestLongWalk(t *testing.T) { // P4.3
	var all []int64
	for x := range int64(130) {
		all = append(all, x)
	}
	next := numbers()
	s, most := steps.New(20), 0
	for range 3000 {
		c := calls()[next(2)]
		from, to, n := next(120), next(120), next(6)
		hold(t, c, s, from, to, n, all)
		if after, e := c.do(s, from, to, n); e == api.OK {
			s = after
		}
		most = max(most, len(s.At))
	}
	if most < 40 {
		t.Error("the walk was through few steps:", most)
	}
}

func TestSame(t *testing.T) { // P4.4
	l := some()
	for _, a := range l {
		for _, b := range l {
			want := true
			for _, at := range times() {
				want = want && number(a, at) == number(b, at)
			}
			if steps.Same(a, b) != want {
				t.Errorf("Same(%v, %v) is %t", a, b, !want)
			}
		}
		for name, w := range wrong() {
			if steps.Same(a, w) || steps.Same(w, a) || steps.Same(w, w) {
				t.Errorf("Same is true of what is not valid: %s", name)
			}
		}
	}
	if !steps.Same(many(2000, 10, 5), profile(0, 5)) || !steps.Same(profile(0, 5), many(2000, 10, 5)) {
		t.Error("Same is false of 2000 equal steps and one")
	}
	if full := many(2000, 10, 5, 7); !steps.Same(full, clone(full)) {
		t.Error("Same is false of 2000 steps")
	}
	if steps.Same(many(2000, 10, 5, 7), many(1999, 10, 5, 7)) || steps.Same(many(2, 10, 5, 7), many(2, 11, 5, 7)) {
		t.Error("Same is true of profiles that differ")
	}
}

// TestBack takes and gives the same, in both orders.
func TestBack(t *testing.T) { // P4.5
	for _, s := range some() {
		for _, from := range times() {
			for _, to := range times() {
				for _, n := range []int64{0, 1, 3, top - 1, top} {
					for i, c := range calls() {
						there, e := c.do(s, from, to, n)
						if e != api.OK {
							continue
						}
						back, e := calls()[1-i].do(there, from, to, n)
						if e != api.OK || !normal(back) || !steps.Same(back, s) {
							t.Errorf("%s of %d from %v, %d to %d, and back: %v, %d", c.name, n, s, from, to, back, e)
						}
					}
				}
			}
		}
	}
}

// takeBoth takes twice; ok: both are possible.
func takeBoth(s api.Steps, a, b [3]int64) (api.Steps, bool) {
	s, e := steps.Take(s, a[0], a[1], a[2])
	if e != api.OK {
		return api.Steps{}, false
	}
	s, e = steps.Take(s, b[0], b[1], b[2])
	return s, e == api.OK
}

func TestTwoTakes(t *testing.T) { // P4.5
	var l [][3]int64
	for _, from := range []int64{0, 1, 2, 3} {
		for _, to := range []int64{1, 2, 3, top} {
			l = append(l, [3]int64{from, to, 1}, [3]int64{from, to, 2})
		}
	}
	possible := 0
	for _, s := range []api.Steps{profile(0, 3), profile(0, 1, 1, 3), profile(0, 3, 2, 2), profile(0, 3, 1, 1, 2, 4, 3, 2), profile(0, 4, 2, 4, 3, 3), profile(0, 0, top, 9)} {
		for _, a := range l {
			for _, b := range l {
				x, ok := takeBoth(s, a, b)
				y, is := takeBoth(s, b, a)
				if ok != is || !equal(x, y) {
					t.Errorf("%v, takes %v and %v: %v, the other way round %v", s, a, b, x, y)
				}
				if ok {
					possible++
				}
			}
		}
	}
	if possible < 1000 {
		t.Error("few takes were possible:", possible)
	}
}

// spoil writes over all memory of a result, its spare capacity too.
func spoil(s api.Steps) {
	for _, l := range [][]int64{s.At, s.N} {
		l = l[:cap(l)]
		for i := range l {
			l[i] = -77
		}
	}
}

// TestMemory holds that arguments, and what is behind them in their memory, stay as they are, and that results have memory of their own.
func TestMemory(t *testing.T) { // P4.3
	at, n := make([]int64, 12), make([]int64, 12)
	for i := range at {
		at[i], n[i] = int64(i)*2, 9-int64(i%2)
	}
	behind := [2][]int64{slices.Clone(at), slices.Clone(n)}
	for _, long := range []int{1, 2, 5, 12} {
		s := api.Steps{At: at[:long], N: n[:long]}
		for _, c := range calls() {
			for _, x := range [][3]int64{{0, 0, 0}, {5, 5, 1}, {0, 4, 1}, {1, 3, 1}, {2, 4, 2}, {1, 99, 1}, {0, top, 1}, {0, 99, 9}, {0, 99, 99}, {98, 99, top}, {-1, 4, 1}} {
				got, e := c.do(s, x[0], x[1], x[2])
				same, _ := c.do(s, x[0], x[1], x[2])
				whole := clone(same)
				spoil(got)
				if !equal(same, whole) {
					t.Errorf("%s(%v): two results share memory", c.name, x)
				}
				if e == api.OK {
					clear(same.At[:cap(same.At)])
					if !slices.Equal(same.N, whole.N) {
						t.Errorf("%s(%v): a result's lists share memory", c.name, x)
					}
				}
				if !slices.Equal(at, behind[0]) || !slices.Equal(n, behind[1]) {
					t.Fatalf("%s(%v) of %d steps changed its argument", c.name, x, long)
				}
			}
		}
		steps.Check(s)
		steps.At(s, 3)
		steps.Least(s, 1, 99)
		steps.Same(s, s)
		if !slices.Equal(at, behind[0]) || !slices.Equal(n, behind[1]) {
			t.Fatalf("a call with %d steps changed its argument", long)
		}
	}
}

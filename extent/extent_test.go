package extent_test

import (
	"math"
	"slices"
	"testing"

	"forebay/api"
	"forebay/extent"
)

const (
	top  = 1 << 40 // written out, so that a wrong limit does not agree with itself
	most = 1000    // extents of a list
)

// row returns a list from pairs: where an extent begins, and how long it is.
func row(pairs ...int64) []api.Ext {
	var l []api.Ext
	for i := 0; i+1 < len(pairs); i += 2 {
		l = append(l, api.Ext{At: pairs[i], Len: pairs[i+1]})
	}
	return l
}

// many returns n extents that begin at multiples of step, the last one first, so that they are not increasing.
func many(n int, step, long int64) []api.Ext {
	var l []api.Ext
	for i := n - 1; i >= 0; i-- {
		l = append(l, api.Ext{At: int64(i) * step, Len: long})
	}
	return l
}

// rising returns l from its end on.
func rising(l []api.Ext) []api.Ext {
	l = slices.Clone(l)
	slices.Reverse(l)
	return l
}

// numbers returns a function that answers other numbers below a bound each time, the same ones in each run.
func numbers() func(bound int64) int64 {
	state := uint64(1)
	return func(bound int64) int64 {
		state = state*6364136223846793005 + 1442695040888963407
		return int64(state >> 33 % uint64(bound))
	}
}

// set is numbers, increasing.
type set []int64

func (s set) has(n int64) bool {
	_, there := slices.BinarySearch(s, n)
	return there
}

// numbersOf is the words: an extent is so many numbers, from At on.
func numbersOf(l []api.Ext) set {
	var s set
	for _, x := range l {
		for n := x.At; n < x.At+x.Len; n++ {
			s = append(s, n)
		}
	}
	slices.Sort(s)
	return s
}

// runs is the words for the normal list of numbers: an extent begins at each whose predecessor is not there.
func runs(s set) []api.Ext {
	var l []api.Ext
	for _, n := range s {
		if !s.has(n - 1) {
			l = append(l, api.Ext{At: n})
		}
		l[len(l)-1].Len++
	}
	return l
}

// without returns the numbers of a that are not in b.
func without(a, b set) set {
	var s set
	for _, n := range a {
		if !b.has(n) {
			s = append(s, n)
		}
	}
	return s
}

// both returns the numbers of a and those of b, those that are in both twice.
func both(a, b set) set {
	s := slices.Concat(a, b)
	slices.Sort(s)
	return s
}

func twice(s set) bool { return len(slices.Compact(slices.Clone(s))) < len(s) }

// bestWay is the chapter's words.
func bestWay(s set, n int64) set {
	var took set
	for n > 0 {
		l := runs(s)
		which := -1
		for i, x := range l {
			if x.Len >= n && (which < 0 || x.Len < l[which].Len) {
				which = i
			}
		}
		if which < 0 {
			which = 0
			for i, x := range l {
				if x.Len > l[which].Len {
					which = i
				}
			}
		}
		part := numbersOf(l[which : which+1])
		part = part[:min(n, int64(len(part)))]
		took, s, n = both(took, part), without(s, part), n-int64(len(part))
	}
	return took
}

// anyList returns a valid one, not normal, whose extents begin and end within long numbers from base on: about so many of 9 are in it.
func anyList(next func(int64) int64, base, long, of int64) []api.Ext {
	var l []api.Ext
	for n := base; n < base+long; n++ {
		switch last := len(l) - 1; {
		case next(9) >= of:
		case last >= 0 && l[last].At+l[last].Len == n && next(4) > 0:
			l[last].Len++
		default:
			l = append(l, api.Ext{At: n, Len: 1})
		}
	}
	for i := len(l) - 1; i > 0; i-- {
		j := next(int64(i + 1))
		l[i], l[j] = l[j], l[i]
	}
	return l
}

// bases are where short lists begin: at 0, and so that the last number is the one below Top.
func bases(long int64) []int64 { return []int64{0, top - long} }

// wrong returns lists that are not valid.
func wrong() map[string][]api.Ext {
	return map[string][]api.Ext{
		"length 0":                          row(5, 0),
		"length 0, among others":            row(0, 3, 5, 0, 7, 2),
		"length 0, at another one's begin":  row(5, 3, 5, 0),
		"length 0, at 0":                    row(0, 0),
		"length 0, at Top":                  row(top, 0),
		"length below 0":                    row(5, -1),
		"the least length":                  row(5, math.MinInt64),
		"length above Top":                  row(0, top+1),
		"the greatest length":               row(0, math.MaxInt64),
		"begins below 0":                    row(-1, 1),
		"begins below 0, ends above it":     row(-1, 2),
		"the least begin":                   row(math.MinInt64, 1),
		"the least of both":                 row(math.MinInt64, math.MinInt64),
		"begins at Top":                     row(top, 1),
		"begins above Top":                  row(top+1, 1),
		"the greatest begin":                row(math.MaxInt64, 1),
		"the greatest of both":              row(math.MaxInt64, math.MaxInt64),
		"a begin and a length that are 0":   row(math.MinInt64, math.MaxInt64),
		"begins above Top, length below 0":  row(top+5, -6),
		"ends above Top":                    row(top-3, 4),
		"both are Top":                      row(top, top),
		"ends above Top, behind a good one": row(0, 1, 2, top-1),
		"twice the same":                    row(5, 2, 5, 2),
		"twice the same number":             row(5, 1, 5, 1),
		"the same begin":                    row(5, 2, 5, 4),
		"the same begin, the longer first":  row(5, 4, 5, 2),
		"the same end":                      row(5, 4, 7, 2),
		"one inside another one":            row(5, 9, 7, 2),
		"a number in common":                row(5, 3, 7, 3),
		"a number in common, not in turn":   row(7, 3, 5, 3),
		"first and last":                    row(5, 2, 9, 1, 0, 6),
		"in common with a much later one":   row(0, 9, 20, 1, 30, 1, 8, 2),
		"all, and the last number":          row(0, top, top-1, 1),
		"1001 extents":                      many(most+1, 2, 1),
		"1001 extents that are one":         many(most+1, 1, 1),
		"2000 extents":                      many(2*most, 3, 2),
	}
}

// right returns lists that are valid.
func right() map[string][]api.Ext {
	return map[string][]api.Ext{
		"nil":                        nil,
		"empty":                      {},
		"one number":                 row(5, 1),
		"the first number":           row(0, 1),
		"the last number":            row(top-1, 1),
		"all":                        row(0, top),
		"all but the first number":   row(1, top-1),
		"all, in two":                row(0, 1, 1, top-1),
		"all, in two, not in turn":   row(7, top-7, 0, 7),
		"adjacent":                   row(0, 3, 3, 2, 5, 1),
		"not in turn":                row(9, 4, 0, 3, 5, 2),
		"adjacent, and not in turn":  row(3, 2, 5, 1, 0, 3),
		"1000 extents":               many(most, 2, 1),
		"1000 extents that are one":  many(most, 1, 1),
		"1000 extents, up to Top":    append(many(most-1, 2, 1), row(top-1, 1)...),
		"1000 extents, the long way": many(most, top/most, top/most),
	}
}

func TestCheck(t *testing.T) { // P11.1
	for name, l := range right() {
		if e := extent.Check(l); e != api.OK {
			t.Errorf("%s: Check is %d", name, e)
		}
	}
	for name, l := range wrong() {
		if e := extent.Check(l); e != api.ErrExtent {
			t.Errorf("%s: Check is %d", name, e)
		}
	}
}

func TestWrong(t *testing.T) { // P11.1
	good := row(0, top)
	for name, l := range wrong() {
		if n := extent.Norm(l); len(n) != 0 {
			t.Errorf("%s: Norm is %v", name, n)
		}
		if n := extent.Total(l); n != 0 {
			t.Errorf("%s: Total is %d", name, n)
		}
		for _, n := range []int64{math.MinInt64, -1, 0, 5, 7, 8, top - 1, top, math.MaxInt64} {
			if extent.Has(l, n) {
				t.Errorf("%s: it has %d", name, n)
			}
		}
		if extent.Meet(l, good) || extent.Meet(good, l) || extent.Meet(l, l) {
			t.Errorf("%s: it meets", name)
		}
	}
}

func TestNorm(t *testing.T) { // P11.1
	for name, c := range map[string]struct{ l, want []api.Ext }{
		"nil":                       {nil, nil},
		"empty":                     {[]api.Ext{}, nil},
		"the chapter's":             {row(3, 2, 0, 3), row(0, 5)},
		"the chapter's, and more":   {row(3, 2, 9, 1, 0, 3), row(0, 5, 9, 1)},
		"normal":                    {row(0, 3, 5, 2, 9, 4), row(0, 3, 5, 2, 9, 4)},
		"one at 0":                  {row(0, 1), row(0, 1)},
		"one at 1":                  {row(1, 1), row(1, 1)},
		"not in turn":               {row(9, 4, 0, 3, 5, 2), row(0, 3, 5, 2, 9, 4)},
		"a number between":          {row(0, 3, 4, 2), row(0, 3, 4, 2)},
		"three are one":             {row(4, 1, 5, 9, 1, 3), row(1, 13)},
		"two and two":               {row(10, 5, 3, 2, 5, 1, 15, 1), row(3, 3, 10, 6)},
		"all":                       {row(0, top), row(0, top)},
		"all, in three":             {row(top-1, 1, 0, 1, 1, top-2), row(0, top)},
		"up to Top":                 {row(top-4, 1, top-2, 2), row(top-4, 1, top-2, 2)},
		"1000 extents":              {many(most, 2, 1), rising(many(most, 2, 1))},
		"1000 extents that are one": {many(most, 7, 7), row(0, 7*most)},
	} {
		if got := extent.Norm(c.l); !slices.Equal(got, c.want) {
			t.Errorf("%s: Norm is %v, not %v", name, got, c.want)
		}
	}
}

func TestTotal(t *testing.T) { // P11.1
	for name, c := range map[string]struct {
		l    []api.Ext
		want int64
	}{
		"nil":                        {nil, 0},
		"empty":                      {[]api.Ext{}, 0},
		"one":                        {row(7, 1), 1},
		"three":                      {row(9, 4, 0, 3, 5, 2), 9},
		"all":                        {row(0, top), top},
		"all, in three":              {row(top-1, 1, 0, 1, 1, top-2), top},
		"all but one":                {row(0, 5, 6, top-6), top - 1},
		"1000 extents":               {many(most, 9, 3), 3 * most},
		"1000 extents, the long way": {many(most, top/most, top/most), top / most * most},
	} {
		if got := extent.Total(c.l); got != c.want {
			t.Errorf("%s: Total is %d, not %d", name, got, c.want)
		}
	}
}

func TestHas(t *testing.T) { // P11.1
	for i, c := range []struct {
		l    []api.Ext
		n    int64
		want bool
	}{
		{row(9, 4, 0, 3, 5, 2), 0, true},
		{row(9, 4, 0, 3, 5, 2), 2, true},
		{row(9, 4, 0, 3, 5, 2), 3, false},
		{row(9, 4, 0, 3, 5, 2), 4, false},
		{row(9, 4, 0, 3, 5, 2), 5, true},
		{row(9, 4, 0, 3, 5, 2), 6, true},
		{row(9, 4, 0, 3, 5, 2), 7, false},
		{row(9, 4, 0, 3, 5, 2), 8, false},
		{row(9, 4, 0, 3, 5, 2), 9, true},
		{row(9, 4, 0, 3, 5, 2), 12, true},
		{row(9, 4, 0, 3, 5, 2), 13, false},
		{row(9, 4, 0, 3, 5, 2), -1, false},
		{row(5, 1), 5, true},
		{nil, 0, false},
		{row(0, top), 0, true},
		{row(0, top), top - 1, true},
		{row(0, top), top, false},
		{row(0, top), -1, false},
		{row(0, top), math.MinInt64, false},
		{row(0, top), math.MaxInt64, false},
		{many(most, 2, 1), 2*most - 2, true},
		{many(most, 2, 1), 2*most - 1, false},
	} {
		if got := extent.Has(c.l, c.n); got != c.want {
			t.Errorf("%d: Has(%d) is %t", i, c.n, got)
		}
	}
}

func TestMeet(t *testing.T) { // P11.1
	a := row(9, 4, 0, 3, 5, 2)
	for i, c := range []struct {
		a, b []api.Ext
		want bool
	}{
		{a, a, true},
		{a, row(12, 9), true},
		{a, row(13, 9), false},
		{a, row(3, 2), false},
		{a, row(3, 3), true},
		{a, row(2, 3), true},
		{a, row(7, 2), false},
		{a, row(7, 2, 3, 2, 13, top-13), false},
		{a, row(7, 2, 3, 2, 12, top-12), true},
		{a, row(0, top), true},
		{a, row(10, 1), true},
		{a, row(0, 1), true},
		{a, nil, false},
		{nil, nil, false},
		{row(0, 5), row(5, top-5), false},
		{row(0, 6), row(5, top-5), true},
		{row(top-1, 1), row(top-1, 1), true},
		{row(top-1, 1), row(0, top-1), false},
		{many(most, 2, 1), row(1999, 1, 998, 1), true},
		{many(most, 4, 2), row(2, 2, 6, 2), false},
	} {
		if got := extent.Meet(c.a, c.b); got != c.want {
			t.Errorf("%d: Meet(%v, %v) is %t", i, c.a, c.b, got)
		}
		if got := extent.Meet(c.b, c.a); got != c.want {
			t.Errorf("%d: the other way round Meet(%v, %v) is %t", i, c.b, c.a, got)
		}
	}
	odd := many(most, 2, 1)
	for i := range odd {
		odd[i].At++
	}
	if extent.Meet(many(most, 2, 1), odd) {
		t.Error("the even numbers meet the odd ones") // together more than a list has
	}
	odd[500].At = 998
	if extent.Check(odd) != api.OK || !extent.Meet(many(most, 2, 1), odd) || !extent.Meet(odd, many(most, 2, 1)) {
		t.Error("998 is in both")
	}
}

// TestSets holds the calls that ask against the chapter's words, number by number.
func TestSets(t *testing.T) { // P11.1
	const long = 14
	next := numbers()
	met := 0
	for _, base := range bases(long) {
		for range 5000 {
			a, b := anyList(next, base, long, 1+next(9)), anyList(next, base, long, next(5))
			s, o := numbersOf(a), numbersOf(b)
			if e := extent.Check(a); e != api.OK {
				t.Fatalf("Check(%v) is %d", a, e)
			}
			if l := extent.Norm(a); !slices.Equal(l, runs(s)) {
				t.Fatalf("Norm(%v) is %v", a, l)
			}
			if n := extent.Total(a); n != int64(len(s)) {
				t.Fatalf("Total(%v) is %d", a, n)
			}
			for n := base - 1; n < base+long+1; n++ {
				if extent.Has(a, n) != s.has(n) {
					t.Fatalf("Has(%v, %d) is %t", a, n, !s.has(n))
				}
			}
			want := twice(both(s, o))
			if extent.Meet(a, b) != want {
				t.Fatalf("Meet(%v, %v) is %t", a, b, !want)
			}
			if want {
				met++
			}
		}
	}
	if met < 1000 || met > 9000 {
		t.Error("few, or almost all, meet:", met)
	}
}

// valid is the chapter's words, for short lists with numbers that do not overflow.
func valid(l []api.Ext) bool {
	for i, x := range l {
		if x.At < 0 || x.At > top || x.Len <= 0 || x.Len > top || x.At+x.Len > top {
			return false
		}
		for _, y := range l[:i] {
			if max(x.At, y.At) < min(x.At+x.Len, y.At+y.Len) {
				return false
			}
		}
	}
	return true
}

// TestCheckAny holds Check against the chapter's words, for lists of which about half are not valid.
func TestCheckAny(t *testing.T) { // P11.1
	next := numbers()
	good, bad := 0, 0
	for _, base := range []int64{-2, top - 17} {
		for range 20000 {
			var l []api.Ext
			for range 1 + next(4) {
				l = append(l, api.Ext{At: base + next(20), Len: next(20)/5 + next(2)})
			}
			want := api.OK
			if !valid(l) {
				want = api.ErrExtent
				bad++
			} else {
				good++
			}
			if e := extent.Check(l); e != want {
				t.Fatalf("Check(%v) is %d", l, e)
			}
		}
	}
	if good < 5000 || bad < 5000 {
		t.Error("few were good, or bad:", good, bad)
	}
}

func TestTake(t *testing.T) { // P11.2
	free := row(9, 4, 0, 3, 5, 2)
	normal := row(0, 3, 5, 2, 9, 4)
	for i, c := range []struct {
		free       []api.Ext
		n          int64
		best       bool
		took, rest []api.Ext
	}{
		{free, 4, false, row(0, 3, 5, 1), row(6, 1, 9, 4)},
		{free, 4, true, row(9, 4), row(0, 3, 5, 2)},
		{free, 0, false, nil, normal},
		{free, 0, true, nil, normal},
		{free, 1, false, row(0, 1), row(1, 2, 5, 2, 9, 4)},
		{free, 1, true, row(5, 1), row(0, 3, 6, 1, 9, 4)},
		{free, 2, true, row(5, 2), row(0, 3, 9, 4)},
		{free, 3, false, row(0, 3), row(5, 2, 9, 4)},
		{free, 3, true, row(0, 3), row(5, 2, 9, 4)},
		{free, 5, false, row(0, 3, 5, 2), row(9, 4)},
		{free, 5, true, row(5, 1, 9, 4), row(0, 3, 6, 1)},
		{free, 6, true, row(5, 2, 9, 4), row(0, 3)},
		{free, 7, true, row(0, 3, 9, 4), row(5, 2)},
		{free, 8, true, row(0, 3, 5, 1, 9, 4), row(6, 1)},
		{free, 8, false, row(0, 3, 5, 2, 9, 3), row(12, 1)},
		{free, 9, false, normal, nil},
		{free, 9, true, normal, nil},
		{nil, 0, false, nil, nil},
		{nil, 0, true, nil, nil},
		{row(3, 2, 0, 3), 4, false, row(0, 4), row(4, 1)},                            // joined
		{row(3, 2, 0, 3, 7, 4), 3, true, row(7, 3), row(0, 5, 10, 1)},                // the list, normal, has 5 and 4: not the 3 at 0
		{row(3, 2, 0, 3, 7, 4), 5, true, row(0, 5), row(7, 4)},                       // nor is there need to take from two
		{row(0, 2, 5, 2, 9, 2), 2, true, row(0, 2), row(5, 2, 9, 2)},                 // the lowest one of the shortest
		{row(0, 3, 5, 2, 9, 2), 1, true, row(5, 1), row(0, 3, 6, 1, 9, 2)},           // here too
		{row(0, 2, 5, 4, 11, 4, 17, 1), 5, true, row(5, 4, 17, 1), row(0, 2, 11, 4)}, // the lowest one of the longest
		{row(0, 4, 5, 4, 10, 4), 9, true, row(0, 4, 5, 4, 10, 1), row(11, 3)},        // and the rest from the lowest numbers on
		{row(0, 4, 10, 4, 20, 1, 30, 1), 5, true, row(0, 4, 20, 1), row(10, 4, 30, 1)},
		{row(0, 1, 2, 1, 4, 1), 2, true, row(0, 1, 2, 1), row(4, 1)},
		{row(0, 9, 10, 8, 20, 3, 30, 5), 20, true, row(0, 9, 10, 8, 20, 3), row(30, 5)}, // the rest, 3 of 20, in the shortest that has them
		{row(0, top), top, true, row(0, top), nil},
		{row(0, top), top, false, row(0, top), nil},
		{row(0, top), top - 1, true, row(0, top-1), row(top-1, 1)},
		{row(0, 1, 2, top-2), top - 2, true, row(2, top-2), row(0, 1)},
		{row(0, 1, 2, top-2), top - 2, false, row(0, 1, 2, top-3), row(top-1, 1)},
		{row(top-1, 1), 1, true, row(top-1, 1), nil},
	} {
		took, rest, e := extent.Take(c.free, c.n, c.best)
		if e != api.OK || !slices.Equal(took, c.took) || !slices.Equal(rest, c.rest) {
			t.Errorf("%d: Take(%v, %d, %t) is %v, %v, %d, not %v, %v", i, c.free, c.n, c.best, took, rest, e, c.took, c.rest)
		}
	}
}

// refused fails where a Take does not return this error, and nothing else.
func refused(t *testing.T, what string, free []api.Ext, n int64, want api.Errno) {
	t.Helper()
	for _, best := range []bool{false, true} {
		took, rest, e := extent.Take(free, n, best)
		if e != want || len(took) != 0 || len(rest) != 0 {
			t.Errorf("%s: Take of %d, best %t, is %v, %v, %d, not %d", what, n, best, took, rest, e, want)
		}
	}
}

func TestTakeErrors(t *testing.T) { // P11.2
	outside := []int64{math.MinInt64, -top, -1, top + 1, 2 * top, math.MaxInt64}
	for _, n := range outside {
		refused(t, "no quantity", row(0, 9), n, api.ErrArg)
		refused(t, "no quantity, all free", row(0, top), n, api.ErrArg)
	}
	for name, l := range wrong() {
		for _, n := range []int64{0, 1, 9, top} {
			refused(t, name, l, n, api.ErrExtent)
		}
		for _, n := range outside { // the first one of the errors that apply
			refused(t, name, l, n, api.ErrArg)
		}
	}
	refused(t, "none free", nil, 1, api.ErrFull)
	refused(t, "none free, Top", nil, top, api.ErrFull)
	refused(t, "one fewer", row(9, 4, 0, 3, 5, 2), 10, api.ErrFull)
	refused(t, "Top of one fewer", row(1, top-1), top, api.ErrFull)
	refused(t, "1000 extents", many(most, 2, 1), most+1, api.ErrFull)
}

// TestTakeAny holds Take against the chapter's words, number by number, and what follows from it.
func TestTakeAny(t *testing.T) { // P11.2, P11.4, P11.5
	const long = 16
	next := numbers()
	apart, full := 0, 0
	for _, base := range bases(long) {
		for range 4000 {
			free := anyList(next, base, long, 2+next(7))
			s := numbersOf(free)
			for n := int64(0); n <= int64(len(s))+1; n++ {
				for _, best := range []bool{false, true} {
					took, rest, e := extent.Take(free, n, best)
					if n > int64(len(s)) {
						if e != api.ErrFull || len(took) != 0 || len(rest) != 0 {
							t.Fatalf("Take(%v, %d, %t) is %v, %v, %d", free, n, best, took, rest, e)
						}
						full++
						continue
					}
					want := s[:n:n]
					if best {
						want = bestWay(s, n)
					}
					if e != api.OK || !slices.Equal(took, runs(want)) || !slices.Equal(rest, runs(without(s, want))) {
						t.Fatalf("Take(%v, %d, %t) is %v, %v, %d, not %v", free, n, best, took, rest, e, runs(want))
					}
					if best {
						holdBest(t, runs(s), took, n)
					}
					if len(took) > 1 {
						apart++
					}
					holdApart(t, free, took, rest, n)
				}
			}
		}
	}
	if apart < 4000 || full < 4000 {
		t.Error("few took from several, or were too many:", apart, full)
	}
}

// holdApart fails if what is taken, and the rest, do not add up to what was free: now, and when it is given back.
func holdApart(t *testing.T, free, took, rest []api.Ext, n int64) { // P11.4
	t.Helper()
	if extent.Meet(took, rest) || extent.Total(took) != n || extent.Total(took)+extent.Total(rest) != extent.Total(free) {
		t.Fatalf("of %v, %d: %v, and the rest %v", free, n, took, rest)
	}
	if s := both(numbersOf(took), numbersOf(rest)); !slices.Equal(s, numbersOf(free)) {
		t.Fatalf("of %v, %d: %v, and the rest %v", free, n, took, rest)
	}
	if back, e := extent.Give(rest, took); e != api.OK || !slices.Equal(back, extent.Norm(free)) {
		t.Fatalf("%v of %v, given back, is %v, %d", took, free, back, e)
	}
	if back, e := extent.Give(took, rest); e != api.OK || !slices.Equal(back, extent.Norm(free)) {
		t.Fatalf("the rest %v of %v, given back, is %v, %d", rest, free, back, e)
	}
}

// holdBest fails if the best way takes n from several where one has them, or not an extent that has exactly n.
func holdBest(t *testing.T, free, took []api.Ext, n int64) { // P11.5
	t.Helper()
	if n == 0 {
		return
	}
	one, exact := false, false
	for _, x := range free {
		one = one || x.Len >= n
		exact = exact || x.Len == n
	}
	if one && len(took) != 1 || exact && !slices.Contains(free, took[0]) {
		t.Fatalf("the best way takes %d of %v from %v", n, free, took)
	}
}

func TestGive(t *testing.T) { // P11.3
	for i, c := range []struct{ free, l, want []api.Ext }{
		{row(0, 3, 4, 1), row(3, 1), row(0, 5)},
		{nil, nil, nil},
		{row(9, 4, 0, 3, 5, 2), nil, row(0, 3, 5, 2, 9, 4)},
		{nil, row(9, 4, 0, 3, 5, 2), row(0, 3, 5, 2, 9, 4)},
		{row(3, 2, 0, 3), nil, row(0, 5)},
		{nil, row(3, 2, 0, 3), row(0, 5)},
		{row(5, 2), row(0, 3), row(0, 3, 5, 2)},
		{row(5, 2), row(3, 2), row(3, 4)},
		{row(5, 2), row(7, 2), row(5, 4)},
		{row(5, 2), row(7, 2, 3, 2), row(3, 6)},
		{row(5, 2), row(8, 2, 2, 2), row(2, 2, 5, 2, 8, 2)},
		{row(0, 3, 5, 2, 9, 4), row(7, 2, 3, 2), row(0, 13)},
		{row(9, 4, 0, 3, 5, 2), row(3, 2), row(0, 7, 9, 4)},
		{row(0, 1), row(1, top-1), row(0, top)},
		{row(1, top-2), row(top-1, 1, 0, 1), row(0, top)},
		{row(0, top), nil, row(0, top)},
		{nil, row(0, top), row(0, top)},
	} {
		if got, e := extent.Give(c.free, c.l); e != api.OK || !slices.Equal(got, c.want) {
			t.Errorf("%d: Give(%v, %v) is %v, %d, not %v", i, c.free, c.l, got, e, c.want)
		}
	}
}

// refusedGive fails where a Give does not return this error, and nothing else.
func refusedGive(t *testing.T, what string, free, l []api.Ext, want api.Errno) {
	t.Helper()
	if got, e := extent.Give(free, l); e != want || len(got) != 0 {
		t.Errorf("%s: Give is %v, %d, not %d", what, got, e, want)
	}
}

func TestGiveErrors(t *testing.T) { // P11.3
	for name, l := range wrong() {
		refusedGive(t, name, l, nil, api.ErrExtent)
		refusedGive(t, name, nil, l, api.ErrExtent)
		refusedGive(t, name, l, l, api.ErrExtent)
		refusedGive(t, name, l, row(1<<30, 1), api.ErrExtent)
		refusedGive(t, name, row(1<<30, 1), l, api.ErrExtent)
	}
	free := row(9, 4, 0, 3, 5, 2)
	for _, l := range [][]api.Ext{
		free, row(2, 1), row(0, 1), row(1, 1), row(2, 3), row(3, 3), row(3, 2, 7, 3), row(0, top), row(12, 1), row(12, 9), row(8, 9),
	} {
		refusedGive(t, "a number that is free", free, l, api.ErrExtent)
		refusedGive(t, "a number that is free, the other way round", l, free, api.ErrExtent)
	}
	refusedGive(t, "the last number", row(0, top), row(top-1, 1), api.ErrExtent)
	wide := many(most, 2, 1)
	refusedGive(t, "1000 extents, and one more", wide, row(2*most, 1), api.ErrFull)
	refusedGive(t, "one, and 1000 more", row(2*most, 1), wide, api.ErrFull)
	refusedGive(t, "1000 extents, and one of them again", wide, row(2*most, 1, 0, 1), api.ErrExtent) // the first one of the errors that apply
	refusedGive(t, "1000 extents, and one too long", wide, row(2*most, top), api.ErrExtent)
}

// TestMost has as many extents as there can be: what counts is how many are left when they are joined.
func TestMost(t *testing.T) { // P11.2, P11.3
	wide := many(most, 2, 1)
	odd := many(most, 2, 1)
	for i := range odd {
		odd[i].At++
	}
	for name, c := range map[string]struct{ free, l, want []api.Ext }{
		"all of two lists are one": {wide, odd, row(0, 2*most)},
		"the first one is longer":  {wide, row(1, 1), append(row(0, 3), rising(wide)[2:]...)},
		"the last one is longer":   {wide, row(2*most-1, 5), append(rising(wide)[:most-1], row(2*most-2, 6)...)},
		"999, and one more":        {wide[1:], row(2*most, 1), append(rising(wide[1:]), row(2*most, 1)...)},
		"1000 that are one":        {many(most, 1, 1), nil, row(0, most)},
		"two gaps, one beside":     {wide, row(3, 1, 2*most, 1), slices.Concat(row(0, 1, 2, 3), rising(wide)[3:], row(2*most, 1))},
	} {
		if got, e := extent.Give(c.free, c.l); e != api.OK || !slices.Equal(got, c.want) {
			t.Errorf("%s: Give is %v, %d", name, got, e)
		}
		if got, e := extent.Give(c.l, c.free); e != api.OK || !slices.Equal(got, c.want) {
			t.Errorf("%s: the other way round Give is %v, %d", name, got, e)
		}
	}
	for _, best := range []bool{false, true} {
		took, rest, e := extent.Take(wide, most-1, best)
		if e != api.OK || !slices.Equal(took, rising(wide)[:most-1]) || !slices.Equal(rest, wide[:1]) {
			t.Error("Take of 999 is", took, rest, e)
		}
		took, rest, e = extent.Take(many(most, 9, 4), 4*most-1, best)
		if e != api.OK || len(took) != most || !slices.Equal(rest, row(9*(most-1)+3, 1)) {
			t.Error("Take of all but one is", took, rest, e)
		}
		took, rest, e = extent.Take(many(most, 9, 4), 1, best)
		if e != api.OK || !slices.Equal(took, row(0, 1)) || len(rest) != most {
			t.Error("Take of one is", took, rest, e)
		}
	}
}

// TestGiveAny holds Give against the chapter's words, number by number.
func TestGiveAny(t *testing.T) { // P11.3
	const long = 16
	next := numbers()
	good, met := 0, 0
	for _, base := range bases(long) {
		for range 8000 {
			free, l := anyList(next, base, long, next(6)), anyList(next, base, long, next(3))
			s := both(numbersOf(free), numbersOf(l))
			got, e := extent.Give(free, l)
			if twice(s) {
				met++
				if e != api.ErrExtent || len(got) != 0 {
					t.Fatalf("Give(%v, %v) is %v, %d", free, l, got, e)
				}
				continue
			}
			good++
			if e != api.OK || !slices.Equal(got, runs(s)) {
				t.Fatalf("Give(%v, %v) is %v, %d, not %v", free, l, got, e, runs(s))
			}
		}
	}
	if good < 3000 || met < 3000 {
		t.Error("few were good, or had numbers that are free:", good, met)
	}
}

// TestOrder gives back two lists in both orders.
func TestOrder(t *testing.T) { // P11.4
	const long = 16
	next := numbers()
	good, bad := 0, 0
	for _, base := range bases(long) {
		for range 8000 {
			free, a, b := anyList(next, base, long, next(4)), anyList(next, base, long, next(3)), anyList(next, base, long, next(3))
			x, e := giveBoth(free, a, b)
			y, f := giveBoth(free, b, a)
			if e != f || !slices.Equal(x, y) {
				t.Fatalf("%v, and %v, then %v: %v, %d; in the other order %v, %d", free, a, b, x, e, y, f)
			}
			if e == api.OK {
				good++
			} else {
				bad++
			}
		}
	}
	if good < 2000 || bad < 2000 {
		t.Error("few were good, or had numbers that are free:", good, bad)
	}
}

func giveBoth(free, a, b []api.Ext) ([]api.Ext, api.Errno) {
	l, e := extent.Give(free, a)
	if e != api.OK {
		return l, e
	}
	return extent.Give(l, b)
}

// TestWalk takes and gives back at random: what is handed out, and what is free, are always all of a pool.
func TestWalk(t *testing.T) { // P11.2, P11.3, P11.4, P11.5
	const size = 300
	next := numbers()
	free := row(0, size)
	var held [][]api.Ext
	gone := 0
	for range 20000 {
		if n := next(40); next(2) == 0 {
			took, rest, e := extent.Take(free, n, next(3) > 0)
			if e != api.OK {
				if e != api.ErrFull || extent.Total(free) >= n {
					t.Fatal("Take of", n, "is", e, "of", free)
				}
				gone++
				continue
			}
			free, held = rest, append(held, took)
		} else if len(held) > 0 {
			i := next(int64(len(held)))
			l, e := extent.Give(free, held[i])
			if e != api.OK {
				t.Fatal("Give of", held[i], "to", free, "is", e)
			}
			free, held = l, slices.Delete(held, int(i), int(i)+1)
		}
		if all := slices.Concat(append(held, free)...); extent.Total(all) != size || !slices.Equal(extent.Norm(all), row(0, size)) {
			t.Fatal("free", free, "held", held)
		}
	}
	if gone < 100 {
		t.Error("seldom full:", gone)
	}
}

// TestAnything calls all with the greatest, the least and other numbers: it must only end.
func TestAnything(t *testing.T) { // P11.1, P11.2, P11.3
	l := []int64{math.MinInt64, math.MinInt64 + 1, -top, -1, 0, 1, 2, top - 1, top, top + 1, math.MaxInt64 - 1, math.MaxInt64}
	next := numbers()
	some := func() int64 { return l[next(int64(len(l)))] }
	list := func() []api.Ext {
		var out []api.Ext
		for range next(4) {
			out = append(out, api.Ext{At: some(), Len: some()})
		}
		return out
	}
	for range 50000 {
		a, b, n := list(), list(), some()
		ok := extent.Check(a) == api.OK
		if extent.Total(a) < 0 || extent.Total(a) > top || !ok && extent.Has(a, n) || !ok && extent.Meet(a, b) {
			t.Fatal(a, b, n)
		}
		took, rest, e := extent.Take(a, n, next(2) == 0)
		if e == api.OK && (extent.Total(took) != n || extent.Total(rest) != extent.Total(a)-n) {
			t.Fatal("Take of", n, "of", a, "is", took, rest)
		}
		sum, e := extent.Give(a, b)
		if e == api.OK && extent.Total(sum) != extent.Total(a)+extent.Total(b) {
			t.Fatal("Give of", b, "to", a, "is", sum)
		}
		extent.Norm(a)
	}
}

// wide returns a copy of l with spare capacity, in which something is.
func wide(l []api.Ext) []api.Ext {
	return append(slices.Clone(l), row(71, 72, 73, 74, 75, 76, 77, 78)...)[:len(l)]
}

// spoil writes over all memory of a list, its spare capacity too.
func spoil(l []api.Ext) {
	l = l[:cap(l)]
	for i := range l {
		l[i] = api.Ext{At: -77, Len: -77}
	}
}

// kept fails unless the argument, with its spare capacity, is what it was.
func kept(t *testing.T, call string, l, before []api.Ext) {
	t.Helper()
	if !slices.Equal(l[:cap(l)], before) {
		t.Fatalf("%s changed its argument: %v, not %v", call, l[:cap(l)], before)
	}
}

// TestMemory holds that arguments, and what is behind them in their memory, stay as they are, and that results have memory of their own.
func TestMemory(t *testing.T) { // P11.1, P11.2, P11.3
	for _, l := range [][]api.Ext{
		nil, row(0, 3), row(0, 3, 5, 2, 9, 4), row(9, 4, 0, 3, 5, 2), row(3, 2, 0, 3), row(5, 1, 3, 2, 0, 3), row(0, 0), row(5, 2, 4, 2),
	} {
		a, b := wide(l), wide(row(20, 4, 13, 2))
		x, y := slices.Clone(a[:cap(a)]), slices.Clone(b[:cap(b)])
		extent.Check(a)
		extent.Total(a)
		extent.Has(a, 4)
		extent.Meet(a, b)
		kept(t, "a call that asks", a, x)
		kept(t, "a call that asks", b, y)
		spoil(extent.Norm(a))
		kept(t, "Norm", a, x)
		for n := range int64(11) {
			for _, best := range []bool{false, true} {
				took, rest, _ := extent.Take(a, n, best)
				kept(t, "Take", a, x)
				before := slices.Clone(rest)
				spoil(took)
				if !slices.Equal(rest, before) {
					t.Fatal("what is taken is in the memory of the rest")
				}
				spoil(rest)
				kept(t, "Take's result", a, x)
			}
		}
		for _, g := range [][2][]api.Ext{{a, b}, {b, a}, {a, nil}, {nil, a}} {
			sum, _ := extent.Give(g[0], g[1])
			spoil(sum)
			kept(t, "Give", a, x)
			kept(t, "Give", b, y)
		}
	}
}

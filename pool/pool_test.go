package pool_test

import (
	"math"
	"slices"
	"strings"
	"testing"

	"forebay/api"
	"forebay/extent"
	"forebay/pool"
)

const (
	top  = 1 << 40 // written out, so that a wrong limit does not agree with itself
	most = 1000    // extents of a list
	long = 32      // bytes of a name
)

// row returns a list from pairs: where an extent begins, and how long it is.
func row(pairs ...int64) []api.Ext {
	var l []api.Ext
	for i := 0; i+1 < len(pairs); i += 2 {
		l = append(l, api.Ext{At: pairs[i], Len: pairs[i+1]})
	}
	return l
}

// every returns n extents of length 1 that begin at multiples of step.
func every(n int, step int64) []api.Ext {
	var l []api.Ext
	for i := range n {
		l = append(l, api.Ext{At: int64(i) * step, Len: 1})
	}
	return l
}

// same reports whether two pools are equal: empty and nil lists are the same.
func same(p, q api.Pool) bool {
	return p.Size == q.Size && p.Grain == q.Grain && p.Quota == q.Quota && p.Drain == q.Drain && p.Best == q.Best &&
		slices.Equal(p.Free, q.Free) && slices.Equal(p.Uses, q.Uses)
}

// numbers returns a function that answers other numbers below a bound each time, the same ones in each run.
func numbers() func(bound int64) int64 {
	state := uint64(1)
	return func(bound int64) int64 {
		state = state*6364136223846793005 + 1442695040888963407
		return int64(state >> 33 % uint64(bound))
	}
}

// some returns the pool of most tests: of 20 grains of 4 bytes; a has 0 to 12 and 32 to 40, c has 48 to 52, and so much is free: 12 20, 40 8, 52 28.
func some() api.Pool {
	return api.Pool{Size: 80, Grain: 4, Free: row(12, 20, 40, 8, 52, 28), Uses: []api.Use{{User: "a", N: 20}, {User: "c", N: 4}}}
}

// but returns some, changed.
func but(change func(p *api.Pool)) api.Pool {
	p := some()
	change(&p)
	return p
}

// full returns a pool with grains of 1 that has 1000 extents free, of 1 byte each, with 3 between them, which a has.
func full() api.Pool {
	return api.Pool{Size: 4 * most, Grain: 1, Free: every(most, 4), Uses: []api.Use{{User: "a", N: 3 * most}}}
}

// right returns pools that are valid.
func right() map[string]api.Pool {
	longest := strings.Repeat("x", long)
	return map[string]api.Pool{
		"some":                      some(),
		"drained":                   but(func(p *api.Pool) { p.Drain = true }),
		"best":                      but(func(p *api.Pool) { p.Best = true }),
		"a quota that one has":      but(func(p *api.Pool) { p.Quota = 20 }),
		"a quota, no multiple":      but(func(p *api.Pool) { p.Quota = 21 }),
		"the greatest quota":        but(func(p *api.Pool) { p.Quota = top }),
		"a smaller grain":           but(func(p *api.Pool) { p.Grain = 2 }),
		"the longest name":          but(func(p *api.Pool) { p.Uses[1].User = longest }),
		"names of any bytes":        but(func(p *api.Pool) { p.Uses[0].User, p.Uses[1].User = "\x00", "\xff =\n" }),
		"a prefix before a longer":  but(func(p *api.Pool) { p.Uses[1].User = "a\x00" }),
		"upper case first":          but(func(p *api.Pool) { p.Uses[0].User = "Z" }),
		"no size":                   {Grain: 1},
		"no size, a great grain":    {Grain: top},
		"no size, empty lists":      {Grain: 3, Free: []api.Ext{}, Uses: []api.Use{}},
		"one grain":                 {Size: 7, Grain: 7, Free: row(0, 7)},
		"one grain, used":           {Size: 7, Grain: 7, Uses: []api.Use{{User: "a", N: 7}}},
		"the greatest":              {Size: top, Grain: 1, Free: row(0, top)},
		"the greatest, one grain":   {Size: top, Grain: top, Quota: top, Free: row(0, top)},
		"the greatest, used":        {Size: top, Grain: top, Quota: top, Uses: []api.Use{{User: "a", N: top}}},
		"the last byte is free":     {Size: top, Grain: 1, Free: row(top-1, 1), Uses: []api.Use{{User: "a", N: top - 1}}},
		"1000 extents":              full(),
		"a quota below the grain":   {Size: 8, Grain: 4, Quota: 3, Free: row(0, 8)},
		"more users than 100":       users(150),
		"the quota of two together": {Size: 8, Grain: 4, Quota: 4, Uses: []api.Use{{User: "a", N: 4}, {User: "b", N: 4}}},
	}
}

// users returns a pool in which n users have a byte each.
func users(n int) api.Pool {
	p := api.Pool{Size: int64(n), Grain: 1}
	for i := range n {
		p.Uses = append(p.Uses, api.Use{User: string([]byte{'a' + byte(i/26), 'a' + byte(i%26)}), N: 1})
	}
	return p
}

// wrong returns pools that are not valid, each for one reason where there can be one.
func wrong() map[string]api.Pool {
	return map[string]api.Pool{
		"zero":                           {},
		"a grain of 0":                   {Size: 8, Free: row(0, 8)},
		"a grain below 0":                {Size: 8, Grain: -4, Free: row(0, 8)},
		"the least grain":                {Grain: math.MinInt64},
		"a grain above Top":              {Grain: top + 1},
		"the greatest grain":             {Grain: math.MaxInt64},
		"a size below 0":                 {Size: -4, Grain: 4},
		"the least size, grain -1":       {Size: math.MinInt64, Grain: -1},
		"the least size":                 {Size: math.MinInt64, Grain: 1},
		"a size below 0, with what fits": {Size: -4, Grain: 4, Free: row(0, 4), Uses: []api.Use{{User: "a", N: -8}}},
		"a size above Top":               {Size: top + 4, Grain: 4, Free: row(0, top), Uses: []api.Use{{User: "a", N: 4}}},
		"the greatest size":              {Size: math.MaxInt64, Grain: 1, Free: row(0, top), Uses: []api.Use{{User: "a", N: math.MaxInt64 - top}}},
		"a size, no multiple":            but(func(p *api.Pool) { p.Size, p.Grain, p.Free, p.Uses = 6, 4, row(0, 4), nil }),
		"a size, no multiple, all added": but(func(p *api.Pool) { p.Size, p.Free = 82, row(12, 20, 40, 8, 52, 30) }),
		"a quota below 0":                but(func(p *api.Pool) { p.Quota = -1 }),
		"a quota above Top":              but(func(p *api.Pool) { p.Quota = top + 1 }),
		"the least quota":                but(func(p *api.Pool) { p.Quota = math.MinInt64 }),
		"the greatest quota":             but(func(p *api.Pool) { p.Quota = math.MaxInt64 }),
		"a quota that one is above":      but(func(p *api.Pool) { p.Quota = 19 }),
		"a quota that the second is": but(func(p *api.Pool) {
			p.Quota, p.Uses = 20, []api.Use{{User: "a", N: 4}, {User: "b", N: 24}}
			p.Free = row(12, 20, 40, 8, 56, 24)
		}),
		"free twice":                     but(func(p *api.Pool) { p.Free, p.Uses = row(12, 20, 28, 12, 52, 28), p.Uses[:1] }),
		"free, not increasing":           but(func(p *api.Pool) { p.Free = row(40, 8, 12, 20, 52, 28) }),
		"free, not joined":               but(func(p *api.Pool) { p.Free = row(12, 20, 40, 8, 52, 8, 60, 20) }),
		"free, of length 0":              but(func(p *api.Pool) { p.Free = row(12, 20, 36, 0, 40, 8, 52, 28) }),
		"free, below 0":                  but(func(p *api.Pool) { p.Free = row(-4, 4, 12, 16, 40, 8, 52, 28) }),
		"free, above the size":           but(func(p *api.Pool) { p.Free = row(12, 20, 40, 8, 56, 28) }),
		"free, all above the size":       but(func(p *api.Pool) { p.Free = row(80, 56) }),
		"free, up to above Top":          but(func(p *api.Pool) { p.Free = row(top, 56) }),
		"free begins within a grain":     but(func(p *api.Pool) { p.Free = row(12, 20, 42, 8, 52, 28) }),
		"free, a part of a grain":        but(func(p *api.Pool) { p.Free = row(12, 20, 40, 6, 52, 28); p.Uses[0].N = 22 }),
		"free, parts of two grains":      but(func(p *api.Pool) { p.Free = row(12, 22, 40, 6, 52, 28) }),
		"free, parts of a grain":         but(func(p *api.Pool) { p.Free = row(12, 22, 42, 6, 52, 28) }),
		"1001 extents":                   {Size: 4 * (most + 1), Grain: 1, Free: every(most+1, 4), Uses: []api.Use{{User: "a", N: 3 * (most + 1)}}},
		"a user twice":                   but(func(p *api.Pool) { p.Uses[1].User = "a" }),
		"users not in order":             but(func(p *api.Pool) { p.Uses[0].User = "d" }),
		"a longer name before its begin": but(func(p *api.Pool) { p.Uses[0].User = "cc" }),
		"no name":                        but(func(p *api.Pool) { p.Uses[0].User = "" }),
		"no name, the only use":          {Size: 4, Grain: 4, Uses: []api.Use{{N: 4}}},
		"a name too long":                but(func(p *api.Pool) { p.Uses[0].User = strings.Repeat("a", long+1) }),
		"the last name too long":         but(func(p *api.Pool) { p.Uses[1].User = strings.Repeat("x", long+1) }),
		"a use of 0":                     but(func(p *api.Pool) { p.Uses = append(p.Uses, api.Use{User: "d"}) }),
		"a use below 0":                  but(func(p *api.Pool) { p.Uses = append(p.Uses, api.Use{User: "d", N: -4}); p.Uses[1].N = 8 }),
		"a use, no multiple":             but(func(p *api.Pool) { p.Uses[0].N, p.Uses[1].N = 18, 6 }),
		"uses are less":                  but(func(p *api.Pool) { p.Uses[0].N = 16 }),
		"uses are more":                  but(func(p *api.Pool) { p.Uses[0].N = 24 }),
		"no uses":                        but(func(p *api.Pool) { p.Uses = nil }),
		"nothing free":                   but(func(p *api.Pool) { p.Free = nil }),
		"more than all is free":          but(func(p *api.Pool) { p.Free = row(0, 80) }),
		"the greatest use":               but(func(p *api.Pool) { p.Uses[0].N = math.MaxInt64 - 3 }),
		"uses that wrap round":           wrapped(),
		"a use in no size":               {Grain: 4, Uses: []api.Use{{User: "a", N: 4}}},
		"free in no size":                {Grain: 4, Free: row(0, 4)},
	}
}

// wrapped returns a pool whose uses add up to its size only in 64 bits: four of 2^62 are 0 there.
func wrapped() api.Pool {
	p := api.Pool{Size: 4, Grain: 4, Free: row(0, 4)}
	for _, user := range []string{"a", "b", "c", "d"} {
		p.Uses = append(p.Uses, api.Use{User: user, N: 1 << 62})
	}
	return p
}

func TestNew(t *testing.T) { // P12.1
	for _, c := range []struct{ size, grain, quota, want int64 }{
		{100, 8, 40, 96},
		{96, 8, 0, 96},
		{103, 8, 0, 96},
		{104, 8, 0, 104},
		{100, 1, 0, 100},
		{100, 1, 7, 100},
		{8, 8, 0, 8},
		{9, 8, 3, 8},
		{7, 8, 0, 0},
		{0, 1, 0, 0},
		{0, top, top, 0},
		{1, 1, 1, 1},
		{5, top, 0, 0},
		{top, 1, 0, top},
		{top, 3, top, top - 1},
		{top, top, top, top},
		{top, top - 1, 0, top - 1},
		{top - 1, top, 0, 0},
		{top - 1, 2, 0, top - 2},
	} {
		for _, best := range []bool{false, true} {
			want := api.Pool{Size: c.want, Grain: c.grain, Quota: c.quota, Best: best}
			if c.want > 0 {
				want.Free = row(0, c.want)
			}
			p, e := pool.New(c.size, c.grain, c.quota, best)
			if e != api.OK || !same(p, want) {
				t.Errorf("New(%d, %d, %d, %t) is %v, %d", c.size, c.grain, c.quota, best, p, e)
			}
			if pool.Check(p) != api.OK || pool.Free(p) != c.want {
				t.Errorf("New(%d, %d, %d, %t) is not valid, or not free: %v", c.size, c.grain, c.quota, best, p)
			}
		}
	}
}

func TestNewErrors(t *testing.T) { // P12.1
	for _, c := range [][3]int64{
		{10, 0, 0}, {0, 0, 0}, {10, -1, 0}, {10, -8, 0}, {10, top + 1, 0}, {10, math.MaxInt64, 0}, {10, math.MinInt64, 0},
		{-1, 1, 0}, {-1, 8, 0}, {-8, 8, 0}, {math.MinInt64, 1, 0}, {math.MinInt64, -1, 0}, {-1, 0, 0},
		{top + 1, 1, 0}, {top + 1, 2, 0}, {top + 5, top, 0}, {math.MaxInt64, 1, 0}, {math.MaxInt64, top, 0}, {math.MaxInt64, math.MaxInt64, math.MaxInt64},
		{10, 1, -1}, {10, 1, top + 1}, {10, 1, math.MinInt64}, {10, 1, math.MaxInt64}, {0, 1, -1},
	} {
		for _, best := range []bool{false, true} {
			if p, e := pool.New(c[0], c[1], c[2], best); e != api.ErrArg || !same(p, api.Pool{}) {
				t.Errorf("New(%d, %d, %d, %t) is %v, %d", c[0], c[1], c[2], best, p, e)
			}
		}
	}
}

func TestCheck(t *testing.T) { // P12.1
	for name, p := range right() {
		if e := pool.Check(p); e != api.OK {
			t.Errorf("%s: Check is %d", name, e)
		}
	}
	for name, p := range wrong() {
		if e := pool.Check(p); e != api.ErrArg {
			t.Errorf("%s: Check is %d", name, e)
		}
	}
}

// valid is the chapter's words, for pools of few bytes, byte by byte.
func valid(p api.Pool) bool {
	if p.Size < 0 || p.Size > top || p.Grain <= 0 || p.Grain > top || p.Quota < 0 || p.Quota > top || p.Size%p.Grain != 0 {
		return false
	}
	left, next := p.Size, int64(0) // next: where an extent can begin, and be increasing, and not joined
	for _, x := range p.Free {
		if x.At < next || x.Len <= 0 || x.At+x.Len > p.Size || x.At%p.Grain != 0 || x.Len%p.Grain != 0 {
			return false
		}
		left, next = left-x.Len, x.At+x.Len+1
	}
	for i, u := range p.Uses {
		for _, v := range p.Uses[:i] {
			if v.User >= u.User {
				return false
			}
		}
		if len(u.User) < 1 || len(u.User) > long || u.N <= 0 || u.N%p.Grain != 0 || p.Quota > 0 && u.N > p.Quota {
			return false
		}
		left -= u.N
	}
	return left == 0
}

// TestCheckAny holds Check against the chapter's words, for pools of which many are almost valid.
func TestCheckAny(t *testing.T) { // P12.1
	next := numbers()
	names := []string{"", "a", "a\x00", "b", "bb", strings.Repeat("c", long), strings.Repeat("c", long+1), "d"}
	good, bad := 0, 0
	for range 200000 {
		p := api.Pool{Grain: 1 + next(3), Quota: next(3) * next(9)}
		p.Size = p.Grain * next(9)
		at := int64(0)
		left := p.Size
		for at < p.Size && next(4) > 0 {
			x := api.Ext{At: at + p.Grain*next(3), Len: p.Grain * (1 + next(3))}
			p.Free, at, left = append(p.Free, x), x.At+x.Len+p.Grain, left-x.Len
		}
		for i := next(3); i < int64(len(names)) && left > 0; i += 1 + next(3) {
			u := api.Use{User: names[i], N: min(left, p.Grain*(1+next(5)))}
			p.Uses, left = append(p.Uses, u), left-u.N
		}
		spoilt(&p, next)
		want := api.ErrArg
		if valid(p) {
			want = api.OK
			good++
		} else {
			bad++
		}
		if e := pool.Check(p); e != want {
			t.Fatalf("Check(%v) is %d", p, e)
		}
	}
	if good < 20000 || bad < 20000 {
		t.Error("few were good, or bad:", good, bad)
	}
}

// spoilt changes a little of p, or nothing.
func spoilt(p *api.Pool, next func(int64) int64) {
	switch next(16) {
	case 0:
		p.Size += next(3) - 1
	case 1:
		p.Grain += next(3) - 1
	case 2:
		p.Quota += next(5) - 2
	case 3:
		if i := next(4); i < int64(len(p.Free)) {
			p.Free[i].At += next(3) - 1
		}
	case 4:
		if i := next(4); i < int64(len(p.Free)) {
			p.Free[i].Len += next(3) - 1
		}
	case 5:
		if i := next(4); i < int64(len(p.Uses)) {
			p.Uses[i].N += next(3) - 1
		}
	case 6:
		slices.Reverse(p.Free)
	case 7:
		slices.Reverse(p.Uses)
	}
}

func TestFreeUsedDrain(t *testing.T) { // P12.2
	p := some()
	for user, want := range map[string]int64{"a": 20, "c": 4, "b": 0, "": 0, "d": 0, "aa": 0, "A": 0, strings.Repeat("x", long+1): 0} {
		if n := pool.Used(p, user); n != want {
			t.Errorf("%q has %d", user, n)
		}
	}
	many := users(150)
	for _, u := range many.Uses {
		if pool.Used(many, u.User) != 1 || pool.Used(many, u.User+"!") != 0 {
			t.Errorf("%q has not 1, or another one has it", u.User)
		}
	}
	for name, p := range right() {
		sum := pool.Free(p)
		if sum != extent.Total(p.Free) {
			t.Errorf("%s: %d is free", name, sum)
		}
		for _, u := range p.Uses {
			if pool.Used(p, u.User) != u.N {
				t.Errorf("%s: %q has %d", name, u.User, pool.Used(p, u.User))
			}
			sum += u.N
		}
		if sum != p.Size {
			t.Errorf("%s: %d in all", name, sum)
		}
		for _, drain := range []bool{true, false} { // from either to either
			for _, before := range []bool{true, false} {
				p.Drain = before
				want := p
				want.Drain = drain
				if q, e := pool.Drain(p, drain); e != api.OK || !same(q, want) {
					t.Errorf("%s: Drain(%t) of drained %t is %v, %d", name, drain, before, q, e)
				}
			}
		}
	}
	if n := pool.Free(some()); n != 56 {
		t.Error("of some", n, "is free")
	}
}

// TestWrong calls all with pools that are not valid.
func TestWrong(t *testing.T) { // P12.2, P12.3, P12.4
	for name, p := range wrong() {
		if n := pool.Free(p); n != 0 {
			t.Errorf("%s: %d is free", name, n)
		}
		for _, user := range []string{"a", "c", "", "d"} {
			if n := pool.Used(p, user); n != 0 {
				t.Errorf("%s: %q has %d", name, user, n)
			}
		}
		for _, drain := range []bool{true, false} {
			if q, e := pool.Drain(p, drain); e != api.ErrArg || !same(q, api.Pool{}) {
				t.Errorf("%s: Drain is %v, %d", name, q, e)
			}
			p.Drain = drain
			refused(t, name, p, "a", 4, api.ErrArg)
			refused(t, name, p, "a", top, api.ErrArg)
			kept(t, name, p, "a", row(0, 4), api.ErrArg)
			kept(t, name, p, "b", row(0, 4), api.ErrArg)
			kept(t, name, p, "a", row(0, 0), api.ErrArg)
		}
	}
}

// refused fails where a Grant does not return this error, and nothing else.
func refused(t *testing.T, what string, p api.Pool, user string, n int64, want api.Errno) {
	t.Helper()
	if q, l, e := pool.Grant(p, user, n); e != want || len(l) != 0 || !same(q, api.Pool{}) {
		t.Errorf("%s: Grant(%q, %d) is %v, %v, %d, not %d", what, user, n, q, l, e, want)
	}
}

// kept fails where a Return does not return this error, and nothing else.
func kept(t *testing.T, what string, p api.Pool, user string, l []api.Ext, want api.Errno) {
	t.Helper()
	if q, e := pool.Return(p, user, l); e != want || !same(q, api.Pool{}) {
		t.Errorf("%s: Return(%q, %v) is %v, %d, not %d", what, user, l, q, e, want)
	}
}

func TestGrant(t *testing.T) { // P12.3
	uses := func(a, b, c int64) []api.Use {
		l := []api.Use{{User: "a", N: a}, {User: "b", N: b}, {User: "c", N: c}}
		return slices.DeleteFunc(l, func(u api.Use) bool { return u.N == 0 })
	}
	for i, c := range []struct {
		best       bool
		quota      int64
		user       string
		n          int64
		took, free []api.Ext
		uses       []api.Use
	}{
		{false, 0, "b", 4, row(12, 4), row(16, 16, 40, 8, 52, 28), uses(20, 4, 4)},
		{false, 0, "b", 1, row(12, 4), row(16, 16, 40, 8, 52, 28), uses(20, 4, 4)},
		{false, 0, "b", 5, row(12, 8), row(20, 12, 40, 8, 52, 28), uses(20, 8, 4)},
		{false, 0, "b", 21, row(12, 20, 40, 4), row(44, 4, 52, 28), uses(20, 24, 4)},
		{false, 0, "a", 4, row(12, 4), row(16, 16, 40, 8, 52, 28), uses(24, 0, 4)},
		{false, 0, "c", 20, row(12, 20), row(40, 8, 52, 28), uses(20, 0, 24)},
		{false, 0, "b", 56, row(12, 20, 40, 8, 52, 28), nil, uses(20, 56, 4)},
		{false, 0, "b", 53, row(12, 20, 40, 8, 52, 28), nil, uses(20, 56, 4)},
		{true, 0, "b", 4, row(40, 4), row(12, 20, 44, 4, 52, 28), uses(20, 4, 4)},
		{true, 0, "b", 5, row(40, 8), row(12, 20, 52, 28), uses(20, 8, 4)},
		{true, 0, "b", 9, row(12, 12), row(24, 8, 40, 8, 52, 28), uses(20, 12, 4)},
		{true, 0, "b", 21, row(52, 24), row(12, 20, 40, 8, 76, 4), uses(20, 24, 4)},
		{true, 0, "b", 30, row(40, 4, 52, 28), row(12, 20, 44, 4), uses(20, 32, 4)},
		{true, 0, "a", 56, row(12, 20, 40, 8, 52, 28), nil, uses(76, 0, 4)},
		{false, 20, "b", 20, row(12, 20), row(40, 8, 52, 28), uses(20, 20, 4)},
		{false, 20, "b", 17, row(12, 20), row(40, 8, 52, 28), uses(20, 20, 4)},
		{false, 20, "c", 16, row(12, 16), row(28, 4, 40, 8, 52, 28), uses(20, 0, 20)},
		{false, 23, "c", 16, row(12, 16), row(28, 4, 40, 8, 52, 28), uses(20, 0, 20)},
		{true, 24, "a", 3, row(40, 4), row(12, 20, 44, 4, 52, 28), uses(24, 0, 4)},
		{true, top, "a", 3, row(40, 4), row(12, 20, 44, 4, 52, 28), uses(24, 0, 4)},
	} {
		p := but(func(p *api.Pool) { p.Best, p.Quota = c.best, c.quota })
		want := p
		want.Free, want.Uses = c.free, c.uses
		q, l, e := pool.Grant(p, c.user, c.n)
		if e != api.OK || !slices.Equal(l, c.took) || !same(q, want) {
			t.Errorf("%d: Grant(%q, %d) is %v, %v, %d", i, c.user, c.n, q, l, e)
		}
	}
}

// TestGrantNames grants to users before, between and behind those who have something.
func TestGrantNames(t *testing.T) { // P12.3
	for user, at := range map[string]int{
		"A": 0, "\x00": 0, " ": 0, "a\x00": 1, "aa": 1, "b": 1, "bz": 1, "c\x00": 2, "d": 2, "\xff": 2, strings.Repeat("b", long): 1, strings.Repeat("\xff", long): 2,
	} {
		want := some()
		want.Free[0] = api.Ext{At: 16, Len: 16}
		want.Uses = slices.Insert(want.Uses, at, api.Use{User: user, N: 4})
		q, l, e := pool.Grant(some(), user, 2)
		if e != api.OK || !slices.Equal(l, row(12, 4)) || !same(q, want) {
			t.Errorf("Grant to %q is %v, %v, %d", user, q, l, e)
		}
	}
}

func TestGrantErrors(t *testing.T) { // P12.3
	outside := []int64{math.MinInt64, -top, -4, -1, 0, top + 1, math.MaxInt64}
	names := []string{"", strings.Repeat("x", long+1), strings.Repeat("x", 1000)}
	drained := but(func(p *api.Pool) { p.Drain = true })
	quota := but(func(p *api.Pool) { p.Quota = 20 })
	for _, p := range []api.Pool{some(), drained, quota, full()} {
		for _, n := range outside {
			refused(t, "a number", p, "a", n, api.ErrArg)
			refused(t, "a number", p, "b", n, api.ErrArg)
		}
		for _, user := range names {
			refused(t, "a name", p, user, 1, api.ErrArg)
			refused(t, "a name", p, user, top, api.ErrArg)
		}
	}
	for _, n := range []int64{1, 4, 56, 57, top} {
		refused(t, "drained", drained, "b", n, api.ErrState)
		refused(t, "drained", but(func(p *api.Pool) { p.Drain, p.Quota = true, 20 }), "a", n, api.ErrState) // the first one of the errors that apply
		refused(t, "drained, no size", api.Pool{Grain: 1, Drain: true}, "a", n, api.ErrState)
		refused(t, "a quota that one has", quota, "a", n, api.ErrQuota)
		refused(t, "no size", api.Pool{Grain: 1}, "a", n, api.ErrFull)
	}
	for _, n := range []int64{21, 24, 56, 57, top - 3, top} { // ErrQuota comes before ErrFull
		refused(t, "above the quota", quota, "b", n, api.ErrQuota)
		refused(t, "above the quota, no multiple", but(func(p *api.Pool) { p.Quota = 23 }), "b", n, api.ErrQuota)
	}
	refused(t, "with what one has above the quota", quota, "c", 17, api.ErrQuota)
	refused(t, "a grain above the quota", but(func(p *api.Pool) { p.Quota = 23 }), "c", 17+4, api.ErrQuota)
	refused(t, "a quota below the grain", api.Pool{Size: 8, Grain: 4, Quota: 3, Free: row(0, 8)}, "a", 1, api.ErrQuota)
	for _, best := range []bool{false, true} {
		p := but(func(p *api.Pool) { p.Best = best })
		for _, n := range []int64{57, 60, 80, 81, top - 1, top} {
			refused(t, "more than is free", p, "b", n, api.ErrFull)
			refused(t, "more than is free", p, "a", n, api.ErrFull)
		}
		refused(t, "more than is free, within the quota", but(func(p *api.Pool) { p.Best, p.Quota = best, 60 }), "b", 57, api.ErrFull)
	}
	refused(t, "one more than is free", full(), "b", most+1, api.ErrFull)
	all := api.Pool{Size: top - 1, Grain: 3, Free: row(0, top-1)} // the multiple is above Top
	refused(t, "more than a size below Top", all, "a", top, api.ErrFull)
	all.Quota = top - 1
	refused(t, "above a quota below Top", all, "a", top, api.ErrQuota)
}

func TestReturn(t *testing.T) { // P12.4
	for i, c := range []struct {
		user string
		l    []api.Ext
		free []api.Ext
		n    int64 // what the user has then
	}{
		{"a", row(0, 12), row(0, 32, 40, 8, 52, 28), 8},
		{"a", row(32, 8), row(12, 36, 52, 28), 12},
		{"a", row(0, 12, 32, 8), row(0, 48, 52, 28), 0},
		{"a", row(32, 8, 0, 12), row(0, 48, 52, 28), 0},
		{"a", row(0, 4), row(0, 4, 12, 20, 40, 8, 52, 28), 16},
		{"a", row(4, 4), row(4, 4, 12, 20, 40, 8, 52, 28), 16},
		{"a", row(8, 4), row(8, 24, 40, 8, 52, 28), 16},
		{"a", row(8, 4, 32, 4), row(8, 28, 40, 8, 52, 28), 12},
		{"a", row(8, 4, 0, 4, 4, 4), row(0, 32, 40, 8, 52, 28), 8}, // adjacent ones are valid
		{"c", row(48, 4), row(12, 20, 40, 40), 0},
		{"a", row(48, 4), row(12, 20, 40, 40), 16}, // it is c's, but that cannot be determined
		{"c", row(0, 4), row(0, 4, 12, 20, 40, 8, 52, 28), 0},
	} {
		for _, drain := range []bool{false, true} {
			p := but(func(p *api.Pool) { p.Drain, p.Best, p.Quota = drain, drain, 20 })
			want := p
			want.Free, want.Uses = c.free, slices.Clone(p.Uses)
			want.Uses[slices.IndexFunc(p.Uses, func(u api.Use) bool { return u.User == c.user })].N = c.n
			want.Uses = slices.DeleteFunc(want.Uses, func(u api.Use) bool { return u.N == 0 })
			if q, e := pool.Return(p, c.user, c.l); e != api.OK || !same(q, want) {
				t.Errorf("%d: Return(%q, %v) is %v, %d", i, c.user, c.l, q, e)
			}
		}
	}
}

// improper returns lists that some's pool does not take from a user who has 20 there, each for one reason.
func improper() map[string][]api.Ext {
	return map[string][]api.Ext{
		"length 0":                        row(0, 0),
		"length 0, among others":          row(0, 4, 8, 0),
		"length below 0":                  row(4, -4),
		"below 0":                         row(-4, 4),
		"the least":                       row(math.MinInt64, math.MinInt64),
		"the greatest":                    row(math.MaxInt64, math.MaxInt64),
		"the greatest length":             row(0, math.MaxInt64),
		"above Top":                       row(top, 4),
		"twice":                           row(0, 4, 0, 4),
		"a number in common":              row(0, 8, 4, 4),
		"1001 extents":                    every(most+1, 8),
		"begins within a grain":           row(1, 4),
		"begins within a grain, ends too": row(2, 4),
		"ends within a grain":             row(0, 3),
		"ends within another grain":       row(0, 5),
		"grains in two parts":             row(0, 2, 2, 2),
		"the second, within a grain":      row(0, 4, 6, 4),
		"the second, a part":              row(0, 4, 4, 2),
		"at the size":                     row(80, 4),
		"from a's up to above the size":   row(32, 52),
		"up to Top":                       row(top-4, 4),
		"free":                            row(12, 4),
		"the last free":                   row(76, 4),
		"in the midst of free":            row(16, 4),
		"a's, and a free one":             row(8, 8),
		"a free one, and a's":             row(28, 8),
		"the second is free":              row(0, 4, 40, 4),
		"all free":                        row(12, 20),
	}
}

func TestReturnErrors(t *testing.T) { // P12.4
	drained := but(func(p *api.Pool) { p.Drain = true })
	for _, p := range []api.Pool{some(), drained} {
		for _, user := range []string{"", strings.Repeat("a", long+1)} {
			for _, l := range [][]api.Ext{row(0, 4), row(0, 0), nil, row(12, 4)} {
				kept(t, "a name", p, user, l, api.ErrArg)
			}
		}
		for _, user := range []string{"a", "c", "b", ""} { // no extents: before ErrNone
			kept(t, "no extents", p, user, nil, api.ErrArg)
			kept(t, "no extents", p, user, []api.Ext{}, api.ErrArg)
		}
		for name, l := range improper() {
			kept(t, name, p, "a", l, api.ErrExtent)
			kept(t, name, p, "b", l, api.ErrNone) // before ErrExtent
			kept(t, name, p, "d", l, api.ErrNone)
		}
		for _, user := range []string{"b", "A", "aa", "\x00", strings.Repeat("c", long)} {
			kept(t, "nothing", p, user, row(0, 4), api.ErrNone)
			kept(t, "nothing", p, user, row(48, 4), api.ErrNone)
		}
		kept(t, "more than a has", p, "a", row(0, 12, 32, 8, 48, 4), api.ErrExtent)
		kept(t, "more than c has", p, "c", row(0, 8), api.ErrExtent)
		kept(t, "more than c has, in two", p, "c", row(0, 4, 8, 4), api.ErrExtent)
	}
	kept(t, "nobody has anything", api.Pool{Grain: 1}, "a", row(0, 1), api.ErrNone)
}

// TestReturnFull gives back to a pool that has 1000 extents free.
func TestReturnFull(t *testing.T) { // P12.4
	p := full()
	kept(t, "one more", p, "a", row(2, 1), api.ErrFull)
	kept(t, "one more, at the end", p, "a", row(4*most-1, 1), api.ErrFull)
	kept(t, "one more, and one beside", p, "a", row(2, 1, 5, 1), api.ErrFull)
	kept(t, "two more, one less", p, "a", row(1, 3, 6, 1, 10, 1), api.ErrFull)
	kept(t, "one more, and a free one", p, "a", row(2, 1, 4, 1), api.ErrExtent) // before ErrFull
	kept(t, "one more, and one above the size", p, "a", row(2, 1, 4*most, 1), api.ErrExtent)
	kept(t, "one more, of nobody", p, "b", row(2, 1), api.ErrNone)
	few := full()
	few.Uses = []api.Use{{User: "a", N: 3*most - 1}, {User: "b", N: 1}}
	kept(t, "one more, more than b has", few, "b", row(2, 1, 6, 1), api.ErrExtent)
	for name, c := range map[string]struct{ l, head []api.Ext }{ // head: of what is free then, instead of the first three
		"behind a free one":   {row(1, 1), row(0, 2, 4, 1, 8, 1)},
		"before a free one":   {row(3, 1), row(0, 1, 3, 2, 8, 1)},
		"between two":         {row(1, 3), row(0, 5, 8, 1)},
		"one more, one less":  {row(6, 1, 1, 3), row(0, 5, 6, 1, 8, 1)},
		"beside, on all ways": {row(1, 1, 3, 1, 5, 1, 7, 1), row(0, 2, 3, 3, 7, 2)},
	} {
		want := p
		want.Free = slices.Concat(c.head, p.Free[3:])
		want.Uses = []api.Use{{User: "a", N: 3*most - extent.Total(c.l)}}
		if q, e := pool.Return(p, "a", c.l); e != api.OK || !same(q, want) {
			t.Errorf("%s: Return is %v, %d", name, q, e)
		}
	}
	var gaps []api.Ext
	for _, x := range p.Free {
		gaps = append(gaps, api.Ext{At: x.At + 1, Len: 3})
	}
	want := api.Pool{Size: 4 * most, Grain: 1, Free: row(0, 4*most)}
	if q, e := pool.Return(p, "a", gaps); e != api.OK || !same(q, want) {
		t.Errorf("Return of all is %v, %d", q, e)
	}
}

// TestExamples is the chapter's.
func TestExamples(t *testing.T) { // P12.1, P12.2, P12.3
	p, e := pool.New(100, 8, 40, false)
	if e != api.OK || pool.Free(p) != 96 {
		t.Fatal(p, e)
	}
	q, l, e := pool.Grant(p, "a", 10)
	if e != api.OK || !slices.Equal(l, row(0, 16)) || pool.Used(q, "a") != 16 {
		t.Error(q, l, e)
	}
	refused(t, "30 more", q, "a", 30, api.ErrQuota)
	q, l, e = pool.Grant(q, "a", 24)
	if e != api.OK || !slices.Equal(l, row(16, 24)) || pool.Used(q, "a") != 40 || pool.Free(q) != 56 {
		t.Error(q, l, e)
	}
	refused(t, "one more", q, "a", 1, api.ErrQuota)
}

// grains is the model: who has each grain of a pool, nobody where it is free.
type grains []string

const nobody = ""

func (g grains) count(user string) int64 {
	n := int64(0)
	for _, has := range g {
		if has == user {
			n++
		}
	}
	return n
}

// set gives the grains of extents to a user. It fails if not all of them were another's.
func (g grains) set(t *testing.T, grain int64, l []api.Ext, from, to string) {
	t.Helper()
	for _, x := range l {
		if x.At < 0 || x.Len <= 0 || x.At%grain != 0 || x.Len%grain != 0 || x.At+x.Len > int64(len(g))*grain {
			t.Fatalf("no grains: %v", l)
		}
		for i := x.At / grain; i < (x.At+x.Len)/grain; i++ {
			if g[i] != from {
				t.Fatalf("%v is not all of %q", l, from)
			}
			g[i] = to
		}
	}
}

// has is the pool that the model stands for.
func (g grains) has(size, grain, quota int64, best, drain bool, names []string) api.Pool {
	p := api.Pool{Size: size, Grain: grain, Quota: quota, Best: best, Drain: drain}
	for i, has := range g {
		at := int64(i) * grain
		switch last := len(p.Free) - 1; {
		case has != nobody:
		case last >= 0 && p.Free[last].At+p.Free[last].Len == at:
			p.Free[last].Len += grain
		default:
			p.Free = append(p.Free, api.Ext{At: at, Len: grain})
		}
	}
	for _, user := range names {
		if n := g.count(user); n > 0 {
			p.Uses = append(p.Uses, api.Use{User: user, N: n * grain})
		}
	}
	return p
}

// lowest is the first way: the lowest grains that are free.
func (g grains) lowest(n, grain int64) []api.Ext {
	var l []api.Ext
	for i, has := range g {
		if has != nobody || n == 0 {
			continue
		}
		n--
		l = append(l, api.Ext{At: int64(i) * grain, Len: grain})
	}
	return extent.Norm(l)
}

// hold is what a user was handed by one Grant.
type hold struct {
	user string
	l    []api.Ext
}

// walk is a pool, with its model, and all that was handed out.
type walk struct {
	t     *testing.T
	next  func(int64) int64
	names []string
	p     api.Pool
	g     grains
	held  []hold
	seen  map[api.Errno]int
}

// grant hands out any number to anybody, and holds the answer against the model.
func (w *walk) grant() {
	p, grain := w.p, w.p.Grain
	user, n := w.names[w.next(int64(len(w.names)))], w.next(grain*9)+w.next(2)
	units := (n + grain - 1) / grain
	want := api.OK
	switch {
	case n == 0:
		want = api.ErrArg
	case p.Drain:
		want = api.ErrState
	case p.Quota > 0 && (w.g.count(user)+units)*grain > p.Quota:
		want = api.ErrQuota
	case units > w.g.count(nobody):
		want = api.ErrFull
	}
	q, l, e := pool.Grant(p, user, n)
	w.seen[e]++
	if e != want {
		w.t.Fatalf("Grant(%v, %q, %d) is %d, not %d", p, user, n, e, want)
	}
	if e != api.OK {
		return
	}
	took, _, _ := extent.Take(p.Free, units*grain, true)
	if !p.Best {
		took = w.g.lowest(units, grain)
	}
	if !slices.Equal(l, took) {
		w.t.Fatalf("Grant(%v, %q, %d) is %v, not %v", p, user, n, l, took)
	}
	if back, e := pool.Return(q, user, l); e != api.OK || !same(back, p) { // P12.5
		w.t.Fatalf("Grant of %v from %v, given back, is %v, %d", l, p, back, e)
	}
	w.g.set(w.t, grain, l, nobody, user)
	w.p, w.held = q, append(w.held, hold{user, l})
}

// giveBack gives back all, or a part, of what one Grant handed out.
func (w *walk) giveBack() {
	if len(w.held) == 0 {
		return
	}
	i := w.next(int64(len(w.held)))
	h := w.held[i]
	l := h.l
	if w.next(3) == 0 && len(l) > 1 {
		l = l[:1]
	}
	q, e := pool.Return(w.p, h.user, l)
	if e != api.OK {
		w.t.Fatalf("Return(%v, %q, %v) is %d", w.p, h.user, l, e)
	}
	w.g.set(w.t, w.p.Grain, l, h.user, nobody)
	w.p = q
	if rest := h.l[len(l):]; len(rest) > 0 {
		w.held[i].l = rest
	} else {
		w.held = slices.Delete(w.held, int(i), int(i)+1)
	}
}

// TestWalk hands out and takes back at random, and holds the pool against the model, grain by grain.
func TestWalk(t *testing.T) { // P12.2, P12.3, P12.4, P12.5
	next := numbers()
	names := []string{"a", "b", "bb", "c", "z"}
	seen := map[api.Errno]int{}
	for i := range int64(40) {
		grain, n, quota, best := 1+next(5), 20+next(30), int64(0), i%2 == 0
		if i%4 < 2 {
			quota = next(grain*n/3) + 1
		}
		p, e := pool.New(grain*n+next(grain), grain, quota, best)
		if e != api.OK {
			t.Fatal(e)
		}
		w := walk{t, next, names, p, make(grains, n), nil, seen}
		for range 500 {
			switch k := next(20); {
			case k < 12:
				w.grant()
			case k < 19:
				w.giveBack()
			default:
				w.p, e = pool.Drain(w.p, next(3) == 0)
				if e != api.OK {
					t.Fatal(e)
				}
			}
			if want := w.g.has(grain*n, grain, quota, best, w.p.Drain, names); !same(w.p, want) || pool.Check(w.p) != api.OK {
				t.Fatalf("%v, not %v", w.p, want)
			}
			if pool.Free(w.p) != w.g.count(nobody)*grain || pool.Used(w.p, "bb") != w.g.count("bb")*grain {
				t.Fatalf("free %d, used %d, of %v", pool.Free(w.p), pool.Used(w.p, "bb"), w.p)
			}
		}
	}
	for _, e := range []api.Errno{api.OK, api.ErrArg, api.ErrState, api.ErrQuota, api.ErrFull} {
		if seen[e] < 50 {
			t.Error("seldom", e, seen)
		}
	}
}

// TestReturnAny gives back any extents, and holds the answer against the chapter's words, byte by byte.
func TestReturnAny(t *testing.T) { // P12.4, P12.5
	next := numbers()
	free := grains(nil)
	for i := range 20 {
		b := int64(i) * 4
		if b < 12 || b >= 32 && b < 40 || b == 48 {
			free = append(free, "used")
		} else {
			free = append(free, nobody)
		}
	}
	seen := map[api.Errno]int{}
	for range 100000 {
		user := []string{"a", "b", "c"}[next(3)]
		var l []api.Ext
		for range next(4) {
			l = append(l, api.Ext{At: (next(22)-1)*4 + next(9)/8, Len: next(4)*4 + next(9)/8})
		}
		want := wanted(free, pool.Used(some(), user), l)
		q, e := pool.Return(some(), user, l)
		seen[e]++
		if e != want {
			t.Fatalf("Return(%q, %v) is %d, not %d", user, l, e, want)
		}
		if e == api.OK && (pool.Check(q) != api.OK || pool.Free(q) != 56+extent.Total(l) || pool.Used(q, user) != pool.Used(some(), user)-extent.Total(l)) {
			t.Fatalf("Return(%q, %v) is %v", user, l, q)
		}
	}
	for _, e := range []api.Errno{api.OK, api.ErrArg, api.ErrNone, api.ErrExtent} {
		if seen[e] < 500 {
			t.Error("seldom", e, seen)
		}
	}
}

// wanted is what the chapter says of a Return to some's pool by one who has n there.
func wanted(free grains, n int64, l []api.Ext) api.Errno {
	if len(l) == 0 {
		return api.ErrArg
	}
	if n == 0 {
		return api.ErrNone
	}
	given := make([]bool, 80)
	for _, x := range l {
		if x.At < 0 || x.Len <= 0 || x.At%4 != 0 || x.Len%4 != 0 || x.At+x.Len > 80 {
			return api.ErrExtent
		}
		for b := x.At; b < x.At+x.Len; b++ {
			if given[b] || free[b/4] == nobody {
				return api.ErrExtent
			}
			given[b], n = true, n-1
		}
	}
	if n < 0 {
		return api.ErrExtent
	}
	return api.OK
}

// TestOthers holds that what one user is handed, and gives back, changes nothing of what another one has.
func TestOthers(t *testing.T) { // P12.5
	p := some()
	for _, n := range []int64{1, 4, 20, 24, 56} {
		q, l, e := pool.Grant(p, "b", n)
		if e != api.OK || pool.Used(q, "a") != 20 || pool.Used(q, "c") != 4 {
			t.Error(n, q, e)
		}
		for _, x := range l {
			for b := x.At; b < x.At+x.Len; b++ {
				if !extent.Has(p.Free, b) || extent.Has(q.Free, b) {
					t.Errorf("%d of %v was not free, or still is", b, l)
				}
			}
		}
		back, e := pool.Return(q, "b", l)
		if e != api.OK || !same(back, p) {
			t.Error(n, back, e)
		}
	}
	q, e := pool.Return(p, "a", row(0, 12))
	if e != api.OK || pool.Used(q, "a") != 8 || pool.Used(q, "c") != 4 {
		t.Error(q, e)
	}
}

// TestAnything calls all with the greatest, the least and other numbers: they must end, and what they return must be valid.
func TestAnything(t *testing.T) { // P12.1, P12.2, P12.3, P12.4, P12.5
	edges := []int64{math.MinInt64, math.MinInt64 + 1, -top, -1, 0, 1, 2, 3, 4, 8, top - 1, top, top + 1, math.MaxInt64 - 1, math.MaxInt64}
	names := []string{"", "a", "b", "c", strings.Repeat("x", long+1)}
	next := numbers()
	edge := func() int64 { return edges[next(int64(len(edges)))] }
	list := func() []api.Ext {
		var l []api.Ext
		for range next(3) {
			l = append(l, api.Ext{At: edge(), Len: edge()})
		}
		return l
	}
	for range 50000 {
		p := api.Pool{Size: edge(), Grain: edge(), Quota: edge(), Drain: next(4) == 0, Best: next(2) == 0, Free: list()}
		for range next(3) {
			p.Uses = append(p.Uses, api.Use{User: names[next(5)], N: edge()})
		}
		if next(2) == 0 {
			p, _ = pool.New(edge(), edge(), edge(), next(2) == 0)
		}
		bad, user := pool.Check(p) != api.OK, names[next(5)]
		if n := pool.Free(p); n < 0 || n > top || bad && n > 0 {
			t.Fatal("of", p, n, "is free")
		}
		if n := pool.Used(p, user); n < 0 || n > top || bad && n > 0 {
			t.Fatal("of", p, user, "has", n)
		}
		d, e := pool.Drain(p, next(2) == 0)
		sound(t, p, d, e)
		q, l, e := pool.Grant(p, user, edge())
		sound(t, p, q, e)
		if e == api.OK {
			q, e = pool.Return(q, user, l)
			sound(t, p, q, e)
			if !same(p, q) {
				t.Fatal(p, "is", q, "when", l, "is given back")
			}
		}
		q, e = pool.Return(p, user, list())
		sound(t, p, q, e)
	}
}

// sound fails if a call that got p returned an error and something else, or something that is not valid.
func sound(t *testing.T, p, got api.Pool, e api.Errno) {
	t.Helper()
	if e != api.OK && !same(got, api.Pool{}) || e == api.OK && pool.Check(got) != api.OK || pool.Check(p) == api.ErrArg && e != api.ErrArg {
		t.Fatal("of", p, "there is", got, e)
	}
}

// wide returns a copy of l with spare capacity, in which something is.
func wide[T any](l []T, behind T) []T {
	return append(slices.Clone(l), behind, behind, behind, behind)[:len(l)]
}

// spoil writes over all memory of a list, its spare capacity too.
func spoil[T any](l []T, with T) {
	l = l[:cap(l)]
	for i := range l {
		l[i] = with
	}
}

// TestMemory holds that arguments, and what is behind them in their memory, stay as they are, and that results have memory of their own.
func TestMemory(t *testing.T) { // P12.2, P12.3, P12.4
	far, other := api.Ext{At: -7, Len: -7}, api.Use{User: "none", N: -7}
	empty := api.Pool{Size: 8, Grain: 4, Free: row(0, 8)}
	last := api.Pool{Size: 8, Grain: 4, Uses: []api.Use{{User: "a", N: 8}}}
	for _, p := range []api.Pool{some(), empty, last, users(30), full()} {
		p.Free, p.Uses = wide(p.Free, far), wide(p.Uses, other)
		free, uses := slices.Clone(p.Free[:cap(p.Free)]), slices.Clone(p.Uses[:cap(p.Uses)])
		hold := func(call string) {
			t.Helper()
			if !slices.Equal(p.Free[:cap(p.Free)], free) || !slices.Equal(p.Uses[:cap(p.Uses)], uses) {
				t.Fatalf("%s changed its argument: %v", call, p)
			}
		}
		used := func(q api.Pool) { // what is done with a result reaches no argument
			spoil(q.Free, api.Ext{At: 99, Len: 99})
			spoil(q.Uses, api.Use{User: "spoilt", N: 99})
		}
		pool.Check(p)
		pool.Free(p)
		pool.Used(p, "a")
		hold("a call that asks")
		for _, drain := range []bool{false, true} {
			q, _ := pool.Drain(p, drain)
			hold("Drain")
			used(q)
			hold("Drain's result")
		}
		for _, user := range []string{"A", "a", "aa", "b", "c", "d"} {
			for _, n := range []int64{0, 1, 8, 56, 57} {
				q, l, _ := pool.Grant(p, user, n)
				hold("Grant")
				before := slices.Clone(q.Free)
				spoil(l, api.Ext{At: 98, Len: 98})
				if !slices.Equal(q.Free, before) {
					t.Fatal("what is handed out is in the memory of the rest")
				}
				used(q)
				hold("Grant's result")
			}
			for _, l := range [][]api.Ext{nil, row(0, 4), row(32, 8, 0, 12), row(48, 4), row(0, 8), row(1, 2), row(0, 1)} {
				l = wide(l, far)
				given := slices.Clone(l[:cap(l)])
				q, _ := pool.Return(p, user, l)
				hold("Return")
				used(q)
				hold("Return's result")
				if !slices.Equal(l[:cap(l)], given) {
					t.Fatalf("Return changed its extents: %v", l)
				}
			}
		}
	}
}

package buffers_test

import (
	"cmp"
	"math"
	"regexp"
	"slices"
	"strconv"
	"strings"
	"testing"

	"forebay/api"
	"forebay/buffers"
)

const (
	top   = 1 << 40 // written out, so that a wrong limit does not agree with itself
	bufs  = 200     // of a registry
	refs  = 200     // of a buffer
	exts  = 1000    // of a list
	long  = 32      // bytes of a name
	jobs  = 1 << 30 // the greatest number of one
	least = math.MinInt64
	most  = math.MaxInt64
)

// row returns extents from pairs: where one begins, and how long it is.
func row(pairs ...int64) []api.Ext {
	var l []api.Ext
	for i := 0; i+1 < len(pairs); i += 2 {
		l = append(l, api.Ext{At: pairs[i], Len: pairs[i+1]})
	}
	return l
}

// every returns n extents of length 1, from a number on, step apart.
func every(n int, from, step int64) []api.Ext {
	var l []api.Ext
	for i := range n {
		l = append(l, api.Ext{At: from + int64(i)*step, Len: 1})
	}
	return l
}

// count returns the numbers from 1 to n, times by.
func count(n int, by int64) []int64 {
	var l []int64
	for i := range n {
		l = append(l, int64(i+1)*by)
	}
	return l
}

// of returns a job's own buffer.
func of(job int64, user, pool string, pairs ...int64) api.Buf {
	return api.Buf{Job: job, User: user, Pool: pool, Exts: row(pairs...)}
}

// kept returns a persistent buffer.
func kept(name, user, pool string, pairs ...int64) api.Buf {
	return api.Buf{Name: name, User: user, Pool: pool, Exts: row(pairs...)}
}

// opened returns b, open.
func opened(b api.Buf) api.Buf {
	b.Open = true
	return b
}

// used returns b, used by some jobs.
func used(b api.Buf, by ...int64) api.Buf {
	b.Refs = by
	return b
}

// alike reports whether two buffers are equal: empty and nil lists are the same.
func alike(a, b api.Buf) bool {
	return a.Job == b.Job && a.Name == b.Name && a.User == b.User && a.Pool == b.Pool && a.Open == b.Open &&
		slices.Equal(a.Exts, b.Exts) && slices.Equal(a.Refs, b.Refs)
}

func same(k, l []api.Buf) bool { return slices.EqualFunc(k, l, alike) }

// deep returns a copy of l that shares nothing with it.
func deep(l []api.Buf) []api.Buf {
	l = slices.Clone(l)
	for i := range l {
		l[i].Exts, l[i].Refs = slices.Clone(l[i].Exts), slices.Clone(l[i].Refs)
	}
	return l
}

// numbers returns a function that answers other numbers below a bound each time, the same ones in each run.
func numbers() func(bound int64) int64 {
	state := uint64(1)
	return func(bound int64) int64 {
		state = state*6364136223846793005 + 1442695040888963407
		return int64(state >> 33 % uint64(bound))
	}
}

// some returns the registry of most tests.
func some() []api.Buf {
	return []api.Buf{
		kept("Z", "cy", "p", 90, 10),
		used(kept("a", "ann", "p", 8, 4, 0, 2), 3, 5, 9),
		used(opened(kept("a.b", "bob", "q", 0, 50)), 5, 7),
		kept("b", "ann", "p", 2, 6),
		of(3, "ann", "p", 12, 4),
		of(5, "bob", "p", 16, 1, 18, 1, 17, 1),
		of(jobs, "ann", "q", top-1, 1),
	}
}

// but returns some, changed.
func but(change func(l []api.Buf) []api.Buf) []api.Buf {
	return change(some())
}

// with returns some, with the buffer at i changed.
func with(i int, change func(b *api.Buf)) []api.Buf {
	l := some()
	change(&l[i])
	return l
}

// many returns a registry of n buffers of jobs, of one pool.
func many(n int) []api.Buf {
	var l []api.Buf
	for i := range int64(n) {
		l = append(l, of(i*2+2, "u", "p", i*3, 2))
	}
	return l
}

// right returns registries.
func right() map[string][]api.Buf {
	longest := strings.Repeat("x", long)
	return map[string][]api.Buf{
		"none":                   nil,
		"none, not nil":          {},
		"some":                   some(),
		"200":                    many(bufs),
		"200 persistent":         alphabet(bufs),
		"one of a job":           {of(1, "a", "p", 0, 1)},
		"the greatest job":       {of(jobs, "a", "p", 0, 1)},
		"one persistent":         {kept("a", "a", "a", 0, 1)},
		"the longest names":      {kept(longest, longest, longest, 0, 1)},
		"of a job, longest":      {of(1, longest, longest, 0, 1)},
		"all of a pool":          {of(1, "a", "p", 0, top)},
		"all of two pools":       {of(1, "a", "p", 0, top), of(2, "a", "q", 0, top)},
		"all of a pool, shared":  {of(1, "a", "p", 0, 7), of(2, "a", "p", 7, top-7)},
		"shared the other way":   {of(1, "a", "p", 7, top-7), of(2, "a", "p", 0, 7)},
		"each in the other":      {of(1, "a", "p", 0, 2, 4, 2, 8, 2), of(2, "a", "p", 6, 2, 2, 2, 10, 2)},
		"the last number":        {of(1, "a", "p", top-1, 1)},
		"extents not normal":     {of(1, "a", "p", 4, 2, 2, 2, 0, 2)},
		"1000 extents":           {{Job: 1, User: "a", Pool: "p", Exts: every(exts, 0, 2)}},
		"1000, and between them": {{Job: 1, User: "a", Pool: "p", Exts: every(exts, 0, 2)}, {Job: 2, User: "a", Pool: "p", Exts: every(exts, 1, 2)}},
		"200 jobs":               {used(kept("a", "a", "p", 0, 1), count(refs, 1)...)},
		"200 jobs, the greatest": {used(kept("a", "a", "p", 0, 1), append(count(refs-1, 1), jobs)...)},
		"an open one":            {opened(kept("a", "a", "p", 0, 1))},
		"an open one, used":      {used(opened(kept("a", "a", "p", 0, 1)), 1, jobs)},
		"no list is nil":         {{Job: 1, User: "a", Pool: "p", Exts: row(0, 1), Refs: []int64{}}},
		"a prefix first":         {kept("a", "a", "p", 0, 1), kept("aa", "a", "p", 1, 1)},
		"a name like a number":   {kept("1", "1", "1", 0, 1), of(1, "1", "1", 1, 1)},
		"of a user's name":       {kept("a", "a", "a", 0, 1), of(1, "a", "b", 0, 1)},
		"used by its owner":      {used(kept("a", "a", "p", 0, 1), 3), of(3, "a", "p", 1, 1)},
		"numbers in any order":   {kept("a", "a", "p", 5, 1), kept("b", "a", "p", 3, 1), of(1, "a", "p", 1, 1)},
		"far apart":              {of(1, "a", "p", 0, 1), of(2, "a", "p", 1<<33, 1), of(3, "a", "p", 1, 1)},
	}
}

// alphabet returns a registry of n persistent buffers, of one pool.
func alphabet(n int) []api.Buf {
	var l []api.Buf
	for i := range n {
		l = append(l, kept(string([]byte{'a' + byte(i/26), 'a' + byte(i%26)}), "u", "p", int64(i), 1))
	}
	return l
}

// wrongBufs returns buffers that are not valid, each for one reason where there can be one.
func wrongBufs() map[string]api.Buf {
	changed := func(b api.Buf, change func(b *api.Buf)) api.Buf {
		change(&b)
		return b
	}
	l := map[string]api.Buf{
		"zero":                      {},
		"job below 0":               of(-1, "a", "p", 0, 1),
		"job below 0, with a name":  changed(kept("x", "a", "p", 0, 1), func(b *api.Buf) { b.Job = -1 }),
		"the least job":             of(least, "a", "p", 0, 1),
		"job above MaxJob":          of(jobs+1, "a", "p", 0, 1),
		"the greatest number":       of(most, "a", "p", 0, 1),
		"a job of 2^32":             of(1<<32, "a", "p", 0, 1),
		"of a job, with a name":     changed(of(1, "a", "p", 0, 1), func(b *api.Buf) { b.Name = "x" }),
		"of a job, open":            opened(of(1, "a", "p", 0, 1)),
		"of a job, used":            used(of(1, "a", "p", 0, 1), 1),
		"of a job, used by another": used(of(1, "a", "p", 0, 1), 2),
		"of none, no name":          kept("", "a", "p", 0, 1),
		"used by 0":                 used(kept("a", "a", "p", 0, 1), 0),
		"used by 0, and 1":          used(kept("a", "a", "p", 0, 1), 0, 1),
		"used by -1":                used(kept("a", "a", "p", 0, 1), -1),
		"used by the least":         used(kept("a", "a", "p", 0, 1), least, 1),
		"used above MaxJob":         used(kept("a", "a", "p", 0, 1), 1, jobs+1),
		"used by the greatest":      used(kept("a", "a", "p", 0, 1), most),
		"used twice":                used(kept("a", "a", "p", 0, 1), 1, 1),
		"used twice, later":         used(kept("a", "a", "p", 0, 1), 1, 2, 2),
		"users not in order":        used(kept("a", "a", "p", 0, 1), 2, 1),
		"the last not in order":     used(kept("a", "a", "p", 0, 1), 1, 3, 2),
		"the first not in order":    used(kept("a", "a", "p", 0, 1), 9, 1, 2, 3),
		"201 jobs":                  used(kept("a", "a", "p", 0, 1), count(refs+1, 1)...),
		"100000 jobs":               used(kept("a", "a", "p", 0, 1), count(100000, 1)...),
		"1001 extents":              {Job: 1, User: "a", Pool: "p", Exts: every(exts+1, 0, 2)},
		"100000 extents":            {Job: 1, User: "a", Pool: "p", Exts: every(100000, 0, 2)},
	}
	for name, x := range map[string][]api.Ext{
		"no extents":          nil,
		"empty extents":       {},
		"length 0":            row(4, 0),
		"length below 0":      row(4, -1),
		"At below 0":          row(-1, 2),
		"above Top":           row(top, 1),
		"up to above Top":     row(top-1, 2),
		"longer than Top":     row(0, top+1),
		"the greatest":        row(most, most),
		"the least":           row(least, least),
		"wraps round":         row(most, 1),
		"a number twice":      row(0, 2, 1, 1),
		"an extent twice":     row(0, 2, 0, 2),
		"one in another":      row(4, 2, 0, 9),
		"the second, of 0":    row(0, 1, 4, 0),
		"the second, too far": row(0, 1, top-1, 2),
	} {
		l["of a job: "+name] = api.Buf{Job: 1, User: "a", Pool: "p", Exts: x}
		l["persistent: "+name] = api.Buf{Name: "a", User: "a", Pool: "p", Exts: x}
	}
	for _, s := range []string{"-a", ".a", "a b", "a\n", "a\x00", "ä", "\xff", "a=", "a/b", strings.Repeat("x", long+1), strings.Repeat("x", 1<<20)} {
		q := strconv.Quote(s[:min(len(s), 40)])
		l["the name "+q] = kept(s, "a", "p", 0, 1)
		l["the user "+q] = kept("a", s, "p", 0, 1)
		l["the pool "+q] = kept("a", "a", s, 0, 1)
		l["a job's user "+q] = of(1, s, "p", 0, 1)
		l["a job's pool "+q] = of(1, "a", s, 0, 1)
		l["a job's, the name "+q] = changed(of(1, "a", "p", 0, 1), func(b *api.Buf) { b.Name = s })
	}
	l["no user"], l["no pool"] = kept("a", "", "p", 0, 1), kept("a", "a", "", 0, 1)
	l["a job's, no user"], l["a job's, no pool"] = of(1, "", "p", 0, 1), of(1, "a", "", 0, 1)
	return l
}

// wrong returns lists that are no registries, each for one reason where there can be one.
func wrong() map[string][]api.Buf {
	l := map[string][]api.Buf{
		"201":                        many(bufs + 1),
		"201 persistent":             alphabet(bufs + 1),
		"5000":                       many(5000),
		"jobs not in order":          but(func(l []api.Buf) []api.Buf { l[4], l[5] = l[5], l[4]; return l }),
		"the last not in order":      but(func(l []api.Buf) []api.Buf { l[5], l[6] = l[6], l[5]; return l }),
		"names not in order":         but(func(l []api.Buf) []api.Buf { l[2], l[3] = l[3], l[2]; return l }),
		"the first names":            but(func(l []api.Buf) []api.Buf { l[0], l[1] = l[1], l[0]; return l }),
		"a longer name first":        but(func(l []api.Buf) []api.Buf { l[1], l[2] = l[2], l[1]; return l }),
		"a job's first":              but(func(l []api.Buf) []api.Buf { l[3], l[4] = l[4], l[3]; return l }),
		"all the other way":          but(func(l []api.Buf) []api.Buf { slices.Reverse(l); return l }),
		"a job twice":                {of(3, "a", "p", 0, 1), of(3, "a", "p", 1, 1)},
		"a job twice, two pools":     {of(3, "a", "p", 0, 1), of(3, "b", "q", 0, 1)},
		"a name twice":               {kept("a", "a", "p", 0, 1), kept("a", "a", "p", 1, 1)},
		"a name twice, two users":    {kept("a", "a", "p", 0, 1), kept("a", "b", "q", 0, 1)},
		"one number in common":       {of(1, "a", "p", 0, 4), of(2, "a", "p", 3, 4)},
		"one number, the other way":  {of(1, "a", "p", 3, 4), of(2, "a", "p", 0, 4)},
		"one inside another":         {of(1, "a", "p", 0, 9), of(2, "a", "p", 4, 1)},
		"the same extents":           {of(1, "a", "p", 0, 9), of(2, "a", "p", 0, 9)},
		"only in one of three":       {of(1, "a", "p", 0, 1, 4, 1, 8, 1), of(2, "a", "p", 2, 1, 6, 1, 8, 1)},
		"persistent, and a job's":    {kept("a", "a", "p", 0, 4), of(2, "a", "p", 0, 1)},
		"two persistent":             {kept("a", "a", "p", 0, 4), kept("b", "b", "p", 2, 1)},
		"not neighbours":             {of(1, "a", "p", 0, 4), of(2, "a", "q", 0, 4), of(3, "a", "p", 8, 1), of(4, "a", "p", 3, 1)},
		"all of it, and the last":    {of(1, "a", "p", 0, top), of(2, "a", "p", top-1, 1)},
		"all of it, twice":           {of(1, "a", "p", 0, top), of(2, "a", "p", 0, top)},
		"the first in a second pool": {of(1, "a", "a", 0, 4), of(2, "a", "b", 4, 1, 0, 1), of(3, "a", "b", 0, 1)},
		"1000, and one of them":      {{Job: 1, User: "a", Pool: "p", Exts: every(exts, 0, 2)}, of(2, "a", "p", 2*exts-2, 1)},
	}
	for name, b := range wrongBufs() {
		l["only "+name] = []api.Buf{b}
		l["last "+name] = append(some(), b) // not in order either, if it is persistent
	}
	for i := range some() {
		at := " at " + strconv.Itoa(i)
		l["no user"+at] = with(i, func(b *api.Buf) { b.User = "" })
		l["no pool"+at] = with(i, func(b *api.Buf) { b.Pool = "" })
		l["a bad user"+at] = with(i, func(b *api.Buf) { b.User = "." })
		l["a bad pool"+at] = with(i, func(b *api.Buf) { b.Pool = "a,b" })
		l["no extents"+at] = with(i, func(b *api.Buf) { b.Exts = nil })
		l["job below 0"+at] = with(i, func(b *api.Buf) { b.Job = -1 })
		l["a bad user of it"+at] = with(i, func(b *api.Buf) { b.Refs = []int64{0} })
		l["another one's number"+at] = with(i, func(b *api.Buf) {
			b.Pool, b.Exts = "p", append(b.Exts, api.Ext{At: 95, Len: 1})
			if i == 0 {
				b.Exts = append(b.Exts, api.Ext{At: 16, Len: 1})
			}
		})
	}
	return l
}

var name = regexp.MustCompile(`\A[a-zA-Z0-9_][a-zA-Z0-9_.-]*\z`)

// isName is what layer 13 says of a name.
func isName(s string) bool { return len(s) <= long && name.MatchString(s) }

// meet reports whether two extents, of numbers up to Top, have a number in common.
func meet(x, y api.Ext) bool { return x.At < y.At+y.Len && y.At < x.At+x.Len }

// meeting reports whether two lists have a number in common.
func meeting(k, l []api.Ext) bool {
	for _, x := range k {
		for _, y := range l {
			if meet(x, y) {
				return true
			}
		}
	}
	return false
}

// isBuf is what the chapter says of a valid buffer.
func isBuf(b api.Buf) bool {
	if !isName(b.User) || !isName(b.Pool) || len(b.Exts) == 0 || len(b.Exts) > exts {
		return false
	}
	for i, x := range b.Exts {
		if x.At < 0 || x.At > top || x.Len < 1 || x.Len > top || x.At+x.Len > top || meeting(b.Exts[:i], b.Exts[i:i+1]) {
			return false
		}
	}
	if b.Job != 0 {
		return b.Job >= 1 && b.Job <= jobs && b.Name == "" && !b.Open && len(b.Refs) == 0
	}
	for i, n := range b.Refs {
		if n < 1 || n > jobs || i > 0 && n <= b.Refs[i-1] {
			return false
		}
	}
	return isName(b.Name) && len(b.Refs) <= refs
}

// before is the order of a registry.
func before(a, b api.Buf) bool {
	if a.Job == 0 && b.Job == 0 {
		return a.Name < b.Name
	}
	return a.Job < b.Job
}

// isRegistry is what the chapter says of one.
func isRegistry(l []api.Buf) bool {
	if len(l) > bufs {
		return false
	}
	for i, b := range l {
		if !isBuf(b) || i > 0 && !before(l[i-1], b) {
			return false
		}
		for _, x := range l[:i] {
			if x.Pool == b.Pool && meeting(x.Exts, b.Exts) {
				return false
			}
		}
	}
	return true
}

// place returns where the persistent buffer with a name is, or, of no name, the own one of a job; -1: nowhere.
func place(l []api.Buf, name string, job int64) int {
	for i, b := range l {
		if b.Job == 0 && job == 0 && b.Name == name || b.Job != 0 && b.Job == job {
			return i
		}
	}
	return -1
}

// The following are what the chapter says of the calls.

func wantGet(l []api.Buf, name string, job int64) (api.Buf, bool) {
	i := place(l, name, job)
	if !isRegistry(l) || i < 0 {
		return api.Buf{}, false
	}
	return l[i], true
}

func wantAdd(l []api.Buf, b api.Buf) ([]api.Buf, api.Errno) {
	switch {
	case !isRegistry(l), !isBuf(b):
		return nil, api.ErrBuf
	case place(l, b.Name, b.Job) >= 0:
		return nil, api.ErrThere
	case len(l) >= bufs:
		return nil, api.ErrFull
	}
	var out []api.Buf
	for _, x := range l {
		if x.Pool == b.Pool && meeting(x.Exts, b.Exts) {
			return nil, api.ErrExtent
		}
		if before(x, b) {
			out = append(out, x)
		}
	}
	return append(append(out, b), l[len(out):]...), api.OK
}

func wantRef(l []api.Buf, name, user string, job int64) ([]api.Buf, api.Errno) {
	if !isRegistry(l) || job < 1 || job > jobs {
		return nil, api.ErrBuf
	}
	i := place(l, name, 0)
	switch {
	case i < 0:
		return nil, api.ErrNone
	case !l[i].Open && l[i].User != user:
		return nil, api.ErrPerm
	case slices.Contains(l[i].Refs, job):
		return nil, api.ErrThere
	case len(l[i].Refs) >= refs:
		return nil, api.ErrFull
	}
	out := deep(l)
	out[i].Refs = append(out[i].Refs, job)
	slices.Sort(out[i].Refs)
	return out, api.OK
}

func wantUnref(l []api.Buf, job int64) ([]api.Buf, api.Errno) {
	if !isRegistry(l) || job < 1 || job > jobs {
		return nil, api.ErrBuf
	}
	out := deep(l)
	for i := range out {
		out[i].Refs = nil
		for _, n := range l[i].Refs {
			if n != job {
				out[i].Refs = append(out[i].Refs, n)
			}
		}
	}
	return out, api.OK
}

func wantDrop(l []api.Buf, name, user string) ([]api.Buf, api.Buf, api.Errno) {
	if !isRegistry(l) {
		return nil, api.Buf{}, api.ErrBuf
	}
	i := place(l, name, 0)
	switch {
	case i < 0:
		return nil, api.Buf{}, api.ErrNone
	case l[i].User != user:
		return nil, api.Buf{}, api.ErrPerm
	case len(l[i].Refs) > 0:
		return nil, api.Buf{}, api.ErrBusy
	}
	return append(slices.Clone(l[:i]), l[i+1:]...), l[i], api.OK
}

func wantFree(l []api.Buf, job int64) ([]api.Buf, api.Buf, api.Errno) {
	if !isRegistry(l) || job < 1 || job > jobs {
		return nil, api.Buf{}, api.ErrBuf
	}
	i := place(l, "", job)
	if i < 0 {
		return nil, api.Buf{}, api.ErrNone
	}
	return append(slices.Clone(l[:i]), l[i+1:]...), l[i], api.OK
}

// call is the arguments of all calls.
type call struct {
	l          []api.Buf
	b          api.Buf
	name, user string
	job        int64
}

// hold makes all calls, and holds what they return against what the chapter says. It counts the errors.
func (c call) hold(t *testing.T, seen map[string]int) {
	t.Helper()
	fail := func(what string, got ...any) {
		t.Helper()
		t.Fatalf("%s, of %v: %v, name %q, user %q, job %d, buffer %v", what, c.l, got, c.name, c.user, c.job, c.b)
	}
	count := func(what string, e api.Errno) {
		if seen != nil {
			seen[what+" "+strconv.Itoa(int(e))]++
		}
	}
	is := isRegistry(c.l)
	e := buffers.Check(c.l)
	count("Check", e)
	if is != (e == api.OK) || !is && e != api.ErrBuf {
		fail("Check", e)
	}
	if b, there := buffers.Find(c.l, c.name); true {
		if want, is := wantGet(c.l, c.name, 0); there != is || !alike(b, want) {
			fail("Find", b, there)
		}
	}
	if b, there := buffers.Of(c.l, c.job); true {
		want, is := wantGet(c.l, "", c.job)
		if there != is || !alike(b, want) {
			fail("Of", b, there)
		}
	}
	hold := func(what string, l, want []api.Buf, b, wantB api.Buf, e, wantE api.Errno) {
		t.Helper()
		count(what, e)
		if e != wantE || !same(l, want) || !alike(b, wantB) || e != api.OK && l != nil {
			fail(what, l, b, e)
		}
		if e == api.OK && buffers.Check(l) != api.OK { // P17.4
			fail(what+", which is no registry", l)
		}
	}
	none := api.Buf{}
	l, e := buffers.Add(c.l, c.b)
	want, wantE := wantAdd(c.l, c.b)
	hold("Add", l, want, none, none, e, wantE)
	l, e = buffers.Ref(c.l, c.name, c.user, c.job)
	want, wantE = wantRef(c.l, c.name, c.user, c.job)
	hold("Ref", l, want, none, none, e, wantE)
	l, e = buffers.Unref(c.l, c.job)
	want, wantE = wantUnref(c.l, c.job)
	hold("Unref", l, want, none, none, e, wantE)
	l, b, e := buffers.Drop(c.l, c.name, c.user)
	want, wantB, wantE := wantDrop(c.l, c.name, c.user)
	hold("Drop", l, want, b, wantB, e, wantE)
	l, b, e = buffers.Free(c.l, c.job)
	want, wantB, wantE = wantFree(c.l, c.job)
	hold("Free", l, want, b, wantB, e, wantE)
}

// TestExample is the chapter's.
func TestExample(t *testing.T) { // P17.2, P17.3
	l, e := buffers.Add(nil, kept("a", "ann", "p", 0, 4))
	if e != api.OK {
		t.Fatal(e)
	}
	if _, e = buffers.Ref(l, "a", "bob", 1); e != api.ErrPerm {
		t.Error("bob uses it", e)
	}
	l, e = buffers.Ref(l, "a", "ann", 1)
	if e != api.OK || !same(l, []api.Buf{used(kept("a", "ann", "p", 0, 4), 1)}) {
		t.Error("ann uses it", l, e)
	}
	if _, _, e = buffers.Drop(l, "a", "ann"); e != api.ErrBusy {
		t.Error("ann drops it, used", e)
	}
	l, e = buffers.Unref(l, 1)
	if e != api.OK || !same(l, []api.Buf{kept("a", "ann", "p", 0, 4)}) {
		t.Error("it is not used", l, e)
	}
	if _, _, e = buffers.Drop(l, "a", "bob"); e != api.ErrPerm {
		t.Error("bob drops it", e)
	}
	l, b, e := buffers.Drop(l, "a", "ann")
	if e != api.OK || len(l) != 0 || !alike(b, kept("a", "ann", "p", 0, 4)) {
		t.Error("ann drops it", l, b, e)
	}
}

func TestCheck(t *testing.T) { // P17.1
	for name, l := range right() {
		if e := buffers.Check(l); e != api.OK || !isRegistry(l) {
			t.Errorf("%s: Check is %d", name, e)
		}
	}
	for name, l := range wrong() {
		if e := buffers.Check(l); e != api.ErrBuf || isRegistry(l) {
			t.Errorf("%s: Check is %d", name, e)
		}
	}
}

// TestNoRegistry holds that of a list that is none there is nothing, whatever it is asked for.
func TestNoRegistry(t *testing.T) { // P17.1, P17.2, P17.3
	for name, l := range wrong() {
		var b api.Buf
		if len(l) > 0 {
			b = l[0]
		}
		for _, c := range []call{
			{l, of(7, "a", "z", 0, 1), "a", "ann", 3}, {l, of(7, "a", "z", 0, 1), "a", "a", 1}, {l, b, b.Name, b.User, b.Job},
			{l, api.Buf{}, "", "", 0}, {l, b, "b", "ann", 5}, {l, b, "none", "none", 77},
		} {
			if _, is := buffers.Find(l, c.name); is {
				t.Errorf("%s: Find(%q)", name, c.name)
			}
			if _, is := buffers.Of(l, c.job); is {
				t.Errorf("%s: Of(%d)", name, c.job)
			}
			if out, e := buffers.Add(l, c.b); e != api.ErrBuf || out != nil {
				t.Errorf("%s: Add(%v) is %v, %d", name, c.b, out, e)
			}
			if out, e := buffers.Ref(l, c.name, c.user, c.job); e != api.ErrBuf || out != nil {
				t.Errorf("%s: Ref(%q) is %v, %d", name, c.name, out, e)
			}
			if out, e := buffers.Unref(l, c.job); e != api.ErrBuf || out != nil {
				t.Errorf("%s: Unref(%d) is %v, %d", name, c.job, out, e)
			}
			if out, b, e := buffers.Drop(l, c.name, c.user); e != api.ErrBuf || out != nil || !alike(b, api.Buf{}) {
				t.Errorf("%s: Drop(%q) is %v, %v, %d", name, c.name, out, b, e)
			}
			if out, b, e := buffers.Free(l, c.job); e != api.ErrBuf || out != nil || !alike(b, api.Buf{}) {
				t.Errorf("%s: Free(%d) is %v, %v, %d", name, c.job, out, b, e)
			}
		}
	}
}

func TestFindOf(t *testing.T) { // P17.1
	for _, l := range right() {
		for i, b := range l {
			var got, other api.Buf
			var is, too bool
			if b.Job == 0 {
				got, is = buffers.Find(l, b.Name)
				other, too = buffers.Find(l, b.Name+"~")
			} else {
				got, is = buffers.Of(l, b.Job)
				other, too = buffers.Of(l, b.Job-jobs)
			}
			if !is || !alike(got, b) {
				t.Errorf("of %v, %d is %v", l, i, got)
			}
			if too || !alike(other, api.Buf{}) {
				t.Errorf("of %v, there is %v", l, other)
			}
		}
	}
	for _, name := range []string{"", "c", "aa", "A", "a.", "3", "ann", "p", strings.Repeat("a", 1<<20)} {
		if b, is := buffers.Find(some(), name); is || !alike(b, api.Buf{}) {
			t.Errorf("there is a buffer %q: %v", name, b)
		}
	}
	for _, job := range []int64{0, 1, 2, 4, 7, -3, -5, jobs - 1, jobs + 1, least, most, 1<<32 + 3} {
		if b, is := buffers.Of(some(), job); is || !alike(b, api.Buf{}) {
			t.Errorf("job %d has a buffer: %v", job, b)
		}
	}
}

// TestAddWrong adds what is no buffer to registries, and to a full one: always ErrBuf comes first.
func TestAddWrong(t *testing.T) { // P17.2
	for name, b := range wrongBufs() {
		for _, l := range [][]api.Buf{nil, some(), many(bufs), alphabet(bufs), {of(1, "a", "p", 0, 1)}, {kept("a", "a", "p", 0, 1)}} {
			if out, e := buffers.Add(l, b); e != api.ErrBuf || out != nil {
				t.Errorf("%s: added to %v it is %v, %d", name, l, out, e)
			}
		}
	}
}

// TestAddOrder has each error with all those that come after it.
func TestAddOrder(t *testing.T) { // P17.2
	full := many(bufs)
	for _, c := range []struct {
		l []api.Buf
		b api.Buf
		e api.Errno
	}{
		{full, of(2, "u", "p", 0, 2), api.ErrThere},                // and full, and another one's
		{full, of(400, "u", "p", 1000, 1), api.ErrThere},           // and full
		{full, of(2, "u", "q", 0, 2), api.ErrThere},                // and full
		{full, of(3, "u", "p", 0, 2), api.ErrFull},                 // and another one's
		{full, of(1, "u", "p", 2, 1), api.ErrFull},                 //
		{full, kept("a", "u", "q", 2, 1), api.ErrFull},             //
		{full, of(jobs, "u", "p", 2, 1), api.ErrFull},              //
		{full[:199], of(3, "u", "p", 0, 2), api.ErrExtent},         //
		{full[:199], of(398, "u", "p", 2, 1), api.ErrThere},        //
		{full[:199], of(400, "u", "p", 2, 1), api.OK},              // the last one that there is room for
		{full[:199], of(1, "u", "p", 2, 1), api.OK},                //
		{full[1:], of(2, "u", "p", 0, 2), api.OK},                  //
		{alphabet(bufs), kept("aa", "x", "y", 7, 7), api.ErrThere}, //
		{alphabet(bufs), kept("a", "x", "y", 7, 7), api.ErrFull},   //
		{alphabet(199), kept("a", "x", "p", 7, 7), api.ErrExtent},  //
		{alphabet(199), kept("a", "x", "p", 198, 1), api.ErrExtent},
		{alphabet(199), kept("a", "x", "p", 199, 1), api.OK},
	} {
		call{l: c.l, b: c.b}.hold(t, nil)
		if _, e := buffers.Add(c.l, c.b); e != c.e {
			t.Errorf("Add(%v) to %d is %d, not %d", c.b, len(c.l), e, c.e)
		}
	}
}

func TestAdd(t *testing.T) { // P17.2, P17.4
	for _, c := range []struct {
		b  api.Buf
		e  api.Errno
		at int // where it is then
	}{
		{kept("A", "x", "x", 0, 1), api.OK, 0},
		{kept("Z.", "x", "x", 0, 1), api.OK, 1},
		{kept("a.", "x", "x", 0, 1), api.OK, 2},
		{kept("aa", "x", "x", 0, 1), api.OK, 3},
		{kept("b.", "x", "x", 0, 1), api.OK, 4},
		{of(1, "x", "x", 0, 1), api.OK, 4},
		{of(4, "x", "x", 0, 1), api.OK, 5},
		{of(6, "x", "x", 0, 1), api.OK, 6},
		{of(jobs-1, "x", "x", 0, 1), api.OK, 6},
		{used(opened(kept("c", "x", "x", 9, 1, 0, 1)), 1, 3, jobs), api.OK, 4},
		{kept("c", "ann", "p", 19, 71, 100, top-100), api.OK, 4},
		{kept("c", "ann", "q", 50, top-51), api.OK, 4},
		{kept("p", "p", "P", 0, top), api.OK, 4},
		{kept("a", "x", "x", 0, 1), api.ErrThere, 0},
		{kept("a.b", "ann", "x", 0, 1), api.ErrThere, 0},
		{kept("Z", "cy", "p", 90, 10), api.ErrThere, 0},
		{of(3, "x", "x", 0, 1), api.ErrThere, 0},
		{of(jobs, "x", "x", 0, 1), api.ErrThere, 0},
		{kept("c", "x", "p", 0, 1), api.ErrExtent, 0},
		{kept("c", "x", "p", 30, 1, 50, 1, 9, 1), api.ErrExtent, 0},
		{kept("c", "x", "p", 19, 72), api.ErrExtent, 0},
		{kept("c", "x", "p", 99, 9), api.ErrExtent, 0},
		{kept("c", "x", "p", 18, 1), api.ErrExtent, 0},
		{of(4, "x", "p", 0, top), api.ErrExtent, 0},
		{of(4, "x", "q", 50, top-50), api.ErrExtent, 0},
		{of(4, "x", "q", 49, 1), api.ErrExtent, 0},
	} {
		call{l: some(), b: c.b}.hold(t, nil)
		l, e := buffers.Add(some(), c.b)
		if e != c.e || e == api.OK && (len(l) != 8 || !alike(l[c.at], c.b) || !same(slices.Delete(l, c.at, c.at+1), some())) {
			t.Errorf("Add(%v) is %v, %d", c.b, l, e)
		}
	}
}

// TestAddAll adds the buffers of registries one by one, in several orders: the registry comes to be the same.
func TestAddAll(t *testing.T) { // P17.2, P17.4
	next := numbers()
	for name, want := range right() {
		for k := range 4 {
			rest := deep(want)
			var l []api.Buf
			for len(rest) > 0 {
				i := []int64{0, int64(len(rest) - 1), next(int64(len(rest))), next(int64(len(rest)))}[k]
				var e api.Errno
				l, e = buffers.Add(l, rest[i])
				if e != api.OK {
					t.Fatalf("%s: %v is not added: %d", name, rest[i], e)
				}
				rest = slices.Delete(rest, int(i), int(i)+1)
			}
			if !same(l, want) {
				t.Errorf("%s: it is %v", name, l)
			}
		}
	}
}

func TestRef(t *testing.T) { // P17.2, P17.4
	longest := strings.Repeat("x", long)
	for _, c := range []struct {
		name, user string
		job        int64
		e          api.Errno
	}{
		{"a", "ann", 1, api.OK},
		{"a", "ann", 4, api.OK},
		{"a", "ann", 7, api.OK},
		{"a", "ann", 10, api.OK},
		{"a", "ann", jobs, api.OK},
		{"b", "ann", 3, api.OK}, // which uses another one, and has one
		{"Z", "cy", 5, api.OK},
		{"a.b", "bob", 6, api.OK},
		{"a.b", "ann", 6, api.OK},
		{"a.b", "nobody", jobs, api.OK},
		{"a.b", "", 1, api.OK}, // it is open: whose name that is does not matter
		{"a.b", longest + "x", 1, api.OK},
		{"a", "ann", 3, api.ErrThere},
		{"a", "ann", 5, api.ErrThere},
		{"a", "ann", 9, api.ErrThere},
		{"a.b", "cy", 7, api.ErrThere},
		{"a", "bob", 1, api.ErrPerm},
		{"a", "bob", 3, api.ErrPerm}, // and there
		{"a", "", 1, api.ErrPerm},
		{"a", "Ann", 1, api.ErrPerm},
		{"a", "anna", 1, api.ErrPerm},
		{"a", "a", 1, api.ErrPerm},
		{"Z", "ann", 1, api.ErrPerm},
		{"c", "ann", 1, api.ErrNone},
		{"A", "nobody", 1, api.ErrNone},
		{"", "ann", 1, api.ErrNone},
		{"", "ann", 3, api.ErrNone}, // its own one is no persistent one
		{"a.", "bob", 5, api.ErrNone},
		{"a", "ann", 0, api.ErrBuf},
		{"a", "ann", -1, api.ErrBuf},
		{"a", "ann", -3, api.ErrBuf},
		{"a", "ann", jobs + 1, api.ErrBuf},
		{"a", "ann", least, api.ErrBuf},
		{"a", "ann", most, api.ErrBuf},
		{"a", "bob", 0, api.ErrBuf},        // and not bob's
		{"c", "bob", jobs + 1, api.ErrBuf}, // and not there
	} {
		call{l: some(), name: c.name, user: c.user, job: c.job}.hold(t, nil)
		if _, e := buffers.Ref(some(), c.name, c.user, c.job); e != c.e {
			t.Errorf("Ref(%q, %q, %d) is %d, not %d", c.name, c.user, c.job, e, c.e)
		}
	}
}

// TestRefFull has a buffer with 200 jobs, and one with one less.
func TestRefFull(t *testing.T) { // P17.2
	all := count(refs, 2)
	for _, full := range []api.Buf{used(kept("a", "ann", "p", 0, 1), all...), used(opened(kept("a", "ann", "p", 0, 1)), all...)} {
		l := []api.Buf{full, kept("b", "ann", "p", 1, 1)}
		for _, c := range []struct {
			name, user string
			job        int64
			e          api.Errno
		}{
			{"a", "ann", 1, api.ErrFull}, {"a", "ann", 401, api.ErrFull}, {"a", "ann", 201, api.ErrFull}, {"a", "ann", jobs, api.ErrFull},
			{"a", "ann", 2, api.ErrThere}, {"a", "ann", 200, api.ErrThere}, {"a", "ann", 400, api.ErrThere},
			{"a", "ann", 0, api.ErrBuf}, {"A", "ann", 2, api.ErrNone}, {"b", "ann", 2, api.OK},
		} {
			call{l: l, name: c.name, user: c.user, job: c.job}.hold(t, nil)
			if _, e := buffers.Ref(l, c.name, c.user, c.job); e != c.e {
				t.Errorf("Ref(%q, %q, %d) is %d, not %d", c.name, c.user, c.job, e, c.e)
			}
		}
		if _, e := buffers.Ref(l, "a", "bob", 1); full.Open && e != api.ErrFull || !full.Open && e != api.ErrPerm {
			t.Error("bob's job is", e)
		}
		for i, job := range all {
			left, e := buffers.Unref(l, job)
			if e != api.OK || len(left[0].Refs) != refs-1 || slices.Contains(left[0].Refs, job) {
				t.Fatal(job, left, e)
			}
			again, e := buffers.Ref(left, "a", "ann", job-1) // between the same ones
			if e != api.OK || len(again[0].Refs) != refs || again[0].Refs[i] != job-1 {
				t.Fatal(job, again, e)
			}
			again, e = buffers.Ref(left, "a", "ann", job)
			if e != api.OK || !same(again, l) {
				t.Fatal(job, again, e)
			}
		}
	}
}

func TestUnref(t *testing.T) { // P17.2, P17.4
	for job, e := range map[int64]api.Errno{
		3: api.OK, 5: api.OK, 7: api.OK, 9: api.OK, 1: api.OK, 4: api.OK, jobs: api.OK, jobs - 1: api.OK,
		0: api.ErrBuf, -1: api.ErrBuf, -5: api.ErrBuf, jobs + 1: api.ErrBuf, least: api.ErrBuf, most: api.ErrBuf, 1<<32 + 5: api.ErrBuf,
	} {
		call{l: some(), job: job}.hold(t, nil)
		if _, got := buffers.Unref(some(), job); got != e {
			t.Errorf("Unref(%d) is %d", job, got)
		}
		if _, got := buffers.Unref(nil, job); got != e {
			t.Errorf("Unref(%d) of none is %d", job, got)
		}
	}
	l, e := buffers.Unref(some(), 5)
	if e != api.OK || !slices.Equal(l[1].Refs, []int64{3, 9}) || !slices.Equal(l[2].Refs, []int64{7}) {
		t.Error(l, e)
	}
	if again, e := buffers.Unref(l, 5); e != api.OK || !same(again, l) {
		t.Error(again, e)
	}
}

func TestDrop(t *testing.T) { // P17.3, P17.4
	for _, c := range []struct {
		name, user string
		e          api.Errno
	}{
		{"Z", "cy", api.OK},
		{"b", "ann", api.OK},
		{"Z", "ann", api.ErrPerm},
		{"Z", "", api.ErrPerm},
		{"b", "anna", api.ErrPerm},
		{"a", "bob", api.ErrPerm},   // and used
		{"a.b", "ann", api.ErrPerm}, // who may use it
		{"a", "ann", api.ErrBusy},
		{"a.b", "bob", api.ErrBusy},
		{"", "ann", api.ErrNone}, // those of jobs have no name, and are not dropped
		{"", "bob", api.ErrNone},
		{"", "", api.ErrNone},
		{"A", "ann", api.ErrNone},
		{"a.", "ann", api.ErrNone},
		{"ab", "x", api.ErrNone},
	} {
		call{l: some(), name: c.name, user: c.user}.hold(t, nil)
		if _, _, e := buffers.Drop(some(), c.name, c.user); e != c.e {
			t.Errorf("Drop(%q, %q) is %d, not %d", c.name, c.user, e, c.e)
		}
	}
	l, b, e := buffers.Drop(some(), "b", "ann")
	if e != api.OK || !same(l, slices.Delete(some(), 3, 4)) || !alike(b, some()[3]) {
		t.Error(l, b, e)
	}
	free := []api.Buf{opened(kept("a", "ann", "p", 0, 1))} // open, and not used
	if _, _, e := buffers.Drop(free, "a", "bob"); e != api.ErrPerm {
		t.Error("an open one is dropped by another", e)
	}
	if l, b, e := buffers.Drop(free, "a", "ann"); e != api.OK || len(l) != 0 || !alike(b, free[0]) {
		t.Error("an open one is not dropped by its owner", l, b, e)
	}
	if _, _, e := buffers.Drop(nil, "a", "ann"); e != api.ErrNone {
		t.Error("of none", e)
	}
}

func TestFree(t *testing.T) { // P17.3, P17.4
	for job, e := range map[int64]api.Errno{
		3: api.OK, 5: api.OK, jobs: api.OK,
		1: api.ErrNone, 4: api.ErrNone, 7: api.ErrNone, 9: api.ErrNone, jobs - 1: api.ErrNone,
		0: api.ErrBuf, -1: api.ErrBuf, -3: api.ErrBuf, jobs + 1: api.ErrBuf, least: api.ErrBuf, most: api.ErrBuf, 1<<32 + 5: api.ErrBuf,
	} {
		call{l: some(), job: job}.hold(t, nil)
		l, b, got := buffers.Free(some(), job)
		if got != e {
			t.Errorf("Free(%d) is %d", job, got)
		}
		if e == api.OK {
			if back, e := buffers.Add(l, b); b.Job != job || e != api.OK || !same(back, some()) {
				t.Errorf("Free(%d) is %v, %v", job, l, b)
			}
		} else if _, _, none := buffers.Free(nil, job); none != e {
			t.Errorf("Free(%d) of none is %d", job, none)
		}
	}
	l, b, e := buffers.Free(some(), 5)
	if e != api.OK || !same(l, slices.Delete(some(), 5, 6)) || !alike(b, some()[5]) || !slices.Equal(l[1].Refs, []int64{3, 5, 9}) {
		t.Error(l, b, e) // that the job uses others is not changed
	}
}

// TestEdges makes all calls of all right registries, with what is in them, and what is nearly in them.
func TestEdges(t *testing.T) { // P17.1, P17.2, P17.3, P17.4
	for _, l := range right() {
		if len(l) > 10 || len(l) > 0 && len(l[0].Exts) > 10 { // those are in other tests
			continue
		}
		names, users, numbers := []string{"", "a", "none"}, []string{"", "a", "none"}, []int64{0, 1, jobs, jobs + 1}
		added := []api.Buf{of(1, "a", "p", 0, 1), of(7, "a", "p", top/2, 9), kept("a", "a", "p", 3, 1), kept("n", "a", "n", 0, 1), {}}
		for _, b := range l {
			names, users = append(names, b.Name), append(users, b.User)
			numbers = append(append(numbers, b.Job-1, b.Job, b.Job+1), b.Refs[:min(3, len(b.Refs))]...)
			b.Pool = "other"
			added = append(added, b)
			b.Job++
			added = append(added, b)
			b.Name += "a"
			added = append(added, b)
			b.Job = 0
			added = append(added, b)
		}
		for _, b := range added {
			call{l: l, b: b}.hold(t, nil)
		}
		for _, name := range names {
			for _, user := range users {
				for _, job := range numbers {
					call{l: l, name: name, user: user, job: job}.hold(t, nil)
				}
			}
		}
	}
}

// registry returns a registry of small numbers, with extents in any order.
func registry(next func(int64) int64) []api.Buf {
	var l []api.Buf
	for _, name := range []string{"A", "a", "a.", "aa", "b"} {
		if next(2) == 0 {
			l = append(l, api.Buf{Name: name, Open: next(3) == 0})
		}
	}
	for _, job := range []int64{1, 2, 5, 6, jobs} {
		if next(2) == 0 {
			l = append(l, api.Buf{Job: job})
		}
	}
	for i := range l {
		b := &l[i]
		b.User, b.Pool = []string{"ann", "bob"}[next(2)], []string{"p", "q"}[next(2)]
		for job := int64(1); job < 7 && b.Job == 0; job++ {
			if next(4) == 0 {
				b.Refs = append(b.Refs, job)
			}
		}
	}
	if len(l) == 0 {
		return l
	}
	at := int64(0) // each number is that of one buffer, whatever its pool, or of none
	for range next(14) {
		at += next(2)
		x := api.Ext{At: at, Len: 1 + next(3)}
		b := &l[next(int64(len(l)))]
		b.Exts, at = append(b.Exts, x), at+x.Len
	}
	l = slices.DeleteFunc(l, func(b api.Buf) bool { return len(b.Exts) == 0 })
	for i := range l {
		for j := range l[i].Exts {
			k := next(int64(j) + 1)
			l[i].Exts[j], l[i].Exts[k] = l[i].Exts[k], l[i].Exts[j]
		}
	}
	return l
}

// spoilt changes one thing of l, or nothing.
func spoilt(l []api.Buf, next func(int64) int64) []api.Buf {
	if len(l) == 0 {
		return l
	}
	i, j := next(int64(len(l))), next(int64(len(l)))
	b := &l[i]
	switch next(22) {
	case 0:
		l[i], l[j] = l[j], l[i]
	case 1:
		l = append(l, l[i])
	case 2:
		l = slices.Insert(l, int(i), l[i])
	case 3:
		b.Job += next(3) - 1
	case 4:
		b.Name += []string{"a", "-", " ", "\x80"}[next(4)]
	case 5:
		b.Name = []string{"", "-", "b", strings.Repeat("b", long), strings.Repeat("b", long+1)}[next(5)]
	case 6:
		b.User = []string{"", "-", "cy", "\n", strings.Repeat("b", long), strings.Repeat("b", long+1)}[next(6)]
	case 7:
		b.Pool = []string{"", "-", "r", "\n", strings.Repeat("b", long), strings.Repeat("b", long+1), "p", "q"}[next(8)]
	case 8:
		b.Open = !b.Open
	case 9:
		b.Exts = b.Exts[:len(b.Exts)-1]
	case 10:
		b.Exts[next(int64(len(b.Exts)))].Len += next(3) - 1
	case 11:
		b.Exts[next(int64(len(b.Exts)))].At += next(3) - 1
	case 12:
		b.Refs = append(b.Refs, []int64{0, 5, 6, 7, jobs, jobs + 1}[next(6)])
	case 13:
		slices.Reverse(b.Refs)
	case 14:
		b.Exts = append(b.Exts, l[j].Exts[0])
	case 15:
		b.Exts = append(b.Exts, api.Ext{At: top - 2, Len: 1 + next(3)})
	}
	return l
}

// TestAny makes all calls of all kinds of lists, of which about a half are registries.
func TestAny(t *testing.T) { // P17.1, P17.2, P17.3, P17.4
	next := numbers()
	seen := map[string]int{}
	for range 60000 {
		c := call{l: registry(next)}
		if next(2) == 0 {
			c.l = spoilt(c.l, next)
		}
		c.name = []string{"A", "a", "a.", "aa", "b", "", "bb"}[next(7)]
		c.user = []string{"ann", "bob", "", "cy"}[next(4)/(1+next(3))]
		c.job = []int64{0, 1, 2, 3, 4, 5, 6, jobs, jobs + 1, -1}[next(10)]
		x := registry(next)
		if next(4) == 0 {
			x = spoilt(x, next)
		}
		if len(x) > 0 {
			c.b = x[next(int64(len(x)))]
			for i := range c.b.Exts { // mostly behind all others
				c.b.Exts[i].At += []int64{0, 40, 80, 80, 80}[next(5)]
			}
		}
		c.hold(t, seen)
	}
	for _, want := range []string{"Check 0", "Check 170", "Add 0", "Add 170", "Add 8", "Add 110", "Ref 0", "Ref 170", "Ref 7", "Ref 171", "Ref 8",
		"Unref 0", "Unref 170", "Drop 0", "Drop 170", "Drop 7", "Drop 171", "Drop 172", "Free 0", "Free 170", "Free 7"} {
		if seen[want] < 400 {
			t.Error("seldom:", want, seen)
		}
	}
}

// TestAnything makes all calls with the greatest, the least and other numbers.
func TestAnything(t *testing.T) { // P17.1, P17.2, P17.3, P17.4
	next := numbers()
	edges := []int64{least, least + 1, -top, -1, 0, 1, 2, 3, jobs - 1, jobs, jobs + 1, top - 1, top, top + 1, most - 1, most}
	edge := func() int64 { return edges[next(int64(len(edges)))] }
	text := func() string {
		return []string{"", "a", "b", "c", "-", "\x00", strings.Repeat("a", long), strings.Repeat("a", long+1)}[next(8)/(1+next(4))]
	}
	single := func() api.Buf {
		b := api.Buf{Job: edge(), Name: text(), User: text(), Pool: text(), Open: next(3) == 0}
		if next(2) == 0 {
			b.Job = 0
		} else if next(2) == 0 {
			b.Name, b.Open = "", false
		}
		for range 1 + next(2) {
			b.Exts = append(b.Exts, api.Ext{At: edge(), Len: edge()})
		}
		for range next(3) {
			b.Refs = append(b.Refs, edge())
		}
		return b
	}
	for range 100000 {
		c := call{b: single(), name: text(), user: text(), job: edge()}
		for range next(4) {
			c.l = append(c.l, single())
		}
		if next(2) == 0 { // registries, too
			c.l = slices.DeleteFunc(c.l, func(b api.Buf) bool { return !isBuf(b) })
			slices.SortFunc(c.l, func(a, b api.Buf) int { return cmp.Or(cmp.Compare(a.Job, b.Job), strings.Compare(a.Name, b.Name)) })
		}
		c.hold(t, nil)
	}
}

// TestWalk changes a registry at random, and holds it against what the chapter says, step by step.
func TestWalk(t *testing.T) { // P17.2, P17.3, P17.4
	next := numbers()
	names, users := []string{"a", "b", "c", "d", "e"}, []string{"ann", "bob", "cy"}
	seen := map[string]int{}
	for range 60 {
		var l []api.Buf
		for range 400 {
			c := call{l: l, name: names[next(5)], user: users[next(3)], job: 1 + next(8)}
			c.b = of(c.job, c.user, []string{"p", "q"}[next(2)], next(20), 1+next(3), 25+next(20), 1+next(3))
			if next(2) == 0 {
				c.b.Job, c.b.Name, c.b.Open = 0, c.name, next(2) == 0
			}
			c.hold(t, seen)
			kept := deep(l)
			var out []api.Buf
			var e api.Errno
			switch next(9) {
			case 0, 1, 2:
				out, e = buffers.Add(l, c.b)
			case 3, 4:
				out, e = buffers.Ref(l, c.name, c.user, c.job)
			case 5, 6:
				out, e = buffers.Unref(l, c.job)
			case 7:
				out, _, e = buffers.Drop(l, c.name, c.user)
			case 8:
				out, _, e = buffers.Free(l, c.job)
			}
			if !same(l, kept) {
				t.Fatal("the registry itself was changed", l, kept)
			}
			if e == api.OK {
				l = out
			}
		}
	}
	for _, want := range []string{"Add 0", "Add 8", "Add 110", "Ref 0", "Ref 7", "Ref 171", "Ref 8", "Unref 0", "Drop 0", "Drop 7", "Drop 171", "Drop 172", "Free 0", "Free 7"} {
		if seen[want] < 200 {
			t.Error("seldom:", want, seen)
		}
	}
}

// TestStay holds that each call but those that the chapter names leaves each buffer, and that Ref and Unref change only Refs.
func TestStay(t *testing.T) { // P17.4
	next := numbers()
	for range 3000 {
		l := registry(next)
		b := kept("z", "ann", "p", 500, 1)
		name, user, job := []string{"A", "a", "a.", "aa", "b"}[next(5)], []string{"ann", "bob"}[next(2)], 1+next(7)
		if out, e := buffers.Add(l, b); e != api.OK || !same(slices.DeleteFunc(out, func(x api.Buf) bool { return x.Name == "z" }), l) {
			t.Fatal("Add", l, out, e)
		}
		for _, call := range []func() ([]api.Buf, api.Errno){
			func() ([]api.Buf, api.Errno) { return buffers.Ref(l, name, user, job) },
			func() ([]api.Buf, api.Errno) { return buffers.Unref(l, job) },
		} {
			out, e := call()
			if e != api.OK {
				continue
			}
			plain := func(l []api.Buf) []api.Buf {
				l = deep(l)
				for i := range l {
					l[i].Refs = nil
				}
				return l
			}
			if !same(plain(out), plain(l)) {
				t.Fatal(l, out)
			}
		}
		if out, b, e := buffers.Drop(l, name, user); e == api.OK && (b.Job != 0 || b.Name != name || b.User != user || len(b.Refs) > 0 || len(out) != len(l)-1) {
			t.Fatal("Drop", l, out, b)
		}
		if out, b, e := buffers.Free(l, job); e == api.OK && (b.Job != job || b.Name != "" || len(out) != len(l)-1) {
			t.Fatal("Free", l, out, b)
		}
	}
}

// TestGreatest has registries of 200 buffers with 1000 extents each, of one pool, each between all others: all calls must end soon.
func TestGreatest(t *testing.T) { // P17.1, P17.2, P17.3
	var l []api.Buf
	for i := range int64(bufs) {
		b := api.Buf{Job: i + 1, User: "u", Pool: "p", Exts: every(exts, i, bufs)}
		if i%2 == 0 {
			slices.Reverse(b.Exts)
		}
		l = append(l, b)
	}
	l[0] = api.Buf{Name: "a", User: "u", Pool: "p", Exts: l[0].Exts, Refs: count(refs, 1)}
	if e := buffers.Check(l); e != api.OK {
		t.Fatal(e)
	}
	if _, e := buffers.Add(l, of(1, "u", "q", 0, 1)); e != api.ErrFull {
		t.Error(e)
	}
	for _, job := range []int64{2, 77, bufs} {
		rest, b, e := buffers.Free(l, job)
		if e != api.OK || len(rest) != bufs-1 || !alike(b, l[job-1]) {
			t.Fatal(job, e)
		}
		if back, e := buffers.Add(rest, b); e != api.OK || !same(back, l) {
			t.Error(job, e)
		}
		for i := range b.Exts {
			if i%250 == 7 {
				b.Exts[i].At++ // one of another one's
				if _, e := buffers.Add(rest, b); e != api.ErrExtent {
					t.Error(job, i, e)
				}
				rest := slices.Insert(slices.Clone(rest), int(job)-1, b)
				if e := buffers.Check(rest); e != api.ErrBuf {
					t.Error(job, i, e)
				}
				b.Exts[i].At--
			}
		}
	}
	if left, e := buffers.Unref(l, 100); e != api.OK || len(left[0].Refs) != refs-1 {
		t.Error(e)
	}
	if _, e := buffers.Ref(l, "a", "u", 201); e != api.ErrFull {
		t.Error(e)
	}
}

// wide returns a copy of l with spare capacity, in which something is.
func wide[T any](l []T, behind T) []T {
	return append(slices.Clone(l), behind, behind, behind, behind)[:len(l)]
}

// roomy returns a copy of l, with such lists everywhere.
func roomy(l []api.Buf) []api.Buf {
	l = deep(l)
	for i := range l {
		l[i].Exts, l[i].Refs = wide(l[i].Exts, api.Ext{At: -7, Len: -7}), wide(l[i].Refs, -7)
	}
	return wide(l, api.Buf{Name: "behind", Job: -7})
}

// bare returns a copy of all that is in the memory of l, what is behind its lists, too.
func bare(l []api.Buf) []api.Buf {
	l = slices.Clone(l[:cap(l)])
	for i := range l {
		l[i].Exts, l[i].Refs = slices.Clone(l[i].Exts[:cap(l[i].Exts)]), slices.Clone(l[i].Refs[:cap(l[i].Refs)])
	}
	return l
}

// spoil writes over all memory of a list, its spare capacity too.
func spoil[T any](l []T, with T) {
	l = l[:cap(l)]
	for i := range l {
		l[i] = with
	}
}

// ruin writes over all memory of a result, one list after the other, and fails if that changes another one of its lists.
func ruin(t *testing.T, l []api.Buf, others ...api.Buf) {
	t.Helper()
	all := append(slices.Clone(l), others...)
	spoil(l, api.Buf{Name: "spoilt"})
	for i := range all {
		rest := deep(all)
		spoil(all[i].Exts, api.Ext{At: 99, Len: 99})
		rest[i].Exts = all[i].Exts
		if !same(all, rest) {
			t.Fatal("two lists share memory:", all)
		}
		spoil(all[i].Refs, 99)
		rest[i].Refs = all[i].Refs
		if !same(all, rest) {
			t.Fatal("two lists share memory:", all)
		}
	}
}

// TestMemory holds that arguments, and what is behind them in their memory, stay as they are, and that results have memory of their own.
func TestMemory(t *testing.T) { // P17.1, P17.2, P17.3
	names := []string{"Z", "a", "a.b", "b", ""}
	for _, l := range [][]api.Buf{nil, some(), some()[:1], some()[6:], many(9), {used(kept("a", "ann", "p", 0, 1), 5)}} {
		l = roomy(l)
		before := bare(l)
		hold := func(call string) {
			t.Helper()
			if !same(bare(l), before) {
				t.Fatalf("%s changed its argument: %v", call, l)
			}
		}
		buffers.Check(l)
		hold("Check")
		for _, b := range []api.Buf{kept("0", "x", "x", 3, 1, 1, 1), used(kept("aa", "ann", "p", 70, 2), 1, 3, 4), of(4, "x", "p", 71, 1), of(jobs-1, "ann", "x", 0, 1), of(4, "x", "p", 0, 9), {}} {
			added := roomy([]api.Buf{b})
			kept := bare(added)
			out, _ := buffers.Add(l, added[0])
			ruin(t, out)
			hold("Add")
			if !same(bare(added), kept) {
				t.Fatalf("Add changed the buffer: %v", added)
			}
		}
		for _, job := range []int64{0, 1, 2, 3, 4, 5, 6, 7, 8, 9, 10, jobs} {
			b, _ := buffers.Of(l, job)
			ruin(t, nil, b)
			hold("Of")
			out, _ := buffers.Unref(l, job)
			ruin(t, out)
			hold("Unref")
			out, b, _ = buffers.Free(l, job)
			ruin(t, out, b)
			hold("Free")
		}
		for _, name := range names {
			b, _ := buffers.Find(l, name)
			ruin(t, nil, b)
			hold("Find")
			for _, user := range []string{"ann", "bob", "cy"} {
				for _, job := range []int64{1, 4, 8, 10} {
					out, _ := buffers.Ref(l, name, user, job)
					ruin(t, out)
					hold("Ref")
				}
				out, b, _ := buffers.Drop(l, name, user)
				ruin(t, out, b)
				hold("Drop")
			}
		}
	}
}

package lanes_test

import (
	"math"
	"slices"
	"testing"

	"forebay/api"
	"forebay/lanes"
)

const (
	top   = 1 << 40 // written out, so that a wrong limit does not agree with itself
	many  = 1000    // wants of a share
	least = math.MinInt64
	most  = math.MaxInt64
)

// repeat returns a list of length n, of one number.
func repeat(n int, x int64) []int64 {
	return slices.Repeat([]int64{x}, n)
}

// numbers returns a function that answers other numbers below a bound each time, the same ones in each run.
func numbers() func(bound int64) int64 {
	state := uint64(1)
	return func(bound int64) int64 {
		state = state*6364136223846793005 + 1442695040888963407
		return int64(state >> 20 % uint64(bound))
	}
}

// isShare holds a list against the words of the chapter, one by one.
func isShare(total int64, wants, l []int64) bool {
	if len(l) != len(wants) {
		return false
	}
	sum, met := int64(0), true
	for i, n := range l {
		if n < 0 || n > wants[i] {
			return false
		}
		sum += n
		met = met && n == wants[i]
	}
	if sum > total || !met && sum != total {
		return false
	}
	for i, n := range l {
		if n == wants[i] {
			continue
		}
		for j, other := range l {
			if other > n+1 || j > i && other > n {
				return false
			}
		}
	}
	return true
}

// byOne returns the share by handing out one after the other, each to the first of those who have least and want more.
func byOne(total int64, wants []int64) []int64 {
	out := make([]int64, len(wants))
	for range total {
		to := -1
		for i := range out {
			if out[i] < wants[i] && (to < 0 || out[i] < out[to]) {
				to = i
			}
		}
		if to < 0 {
			break
		}
		out[to]++
	}
	return out
}

// split returns the share, which must be one by the chapter's words.
func split(t *testing.T, total int64, wants []int64) []int64 {
	t.Helper()
	l, e := lanes.Split(total, wants)
	if e != api.OK || !isShare(total, wants, l) {
		t.Fatalf("Split(%d, %v) is %v, %d", total, wants, l, e)
	}
	return l
}

// lists calls do with each list of a length, of numbers up to a greatest one.
func lists(length int, greatest int64, do func(l []int64)) {
	l := make([]int64, length)
	var from func(i int)
	from = func(i int) {
		if i == length {
			do(l)
			return
		}
		for l[i] = 0; l[i] <= greatest; l[i]++ {
			from(i + 1)
		}
	}
	from(0)
}

func TestSplit(t *testing.T) { // P18.1
	for _, c := range []struct {
		total       int64
		wants, want []int64
	}{
		{10, []int64{3, 9, 9}, []int64{3, 4, 3}}, // the chapter's examples
		{2, []int64{5, 5, 5}, []int64{1, 1, 0}},
		{100, []int64{1, 2, 3}, []int64{1, 2, 3}},

		{5, nil, nil},
		{5, []int64{}, nil},
		{0, nil, nil},
		{top, nil, nil},
		{0, []int64{0}, []int64{0}},
		{0, []int64{9}, []int64{0}},
		{0, []int64{1, 2, top}, []int64{0, 0, 0}},
		{7, []int64{0, 0}, []int64{0, 0}},
		{4, []int64{5}, []int64{4}},
		{5, []int64{5}, []int64{5}},
		{6, []int64{5}, []int64{5}},

		{9, []int64{9, 9, 3}, []int64{3, 3, 3}},
		{10, []int64{9, 9, 3}, []int64{4, 3, 3}},
		{11, []int64{9, 9, 3}, []int64{4, 4, 3}},
		{10, []int64{9, 3, 9}, []int64{4, 3, 3}},
		{10, []int64{4, 9, 3}, []int64{4, 3, 3}}, // what is above the level meets the want
		{4, []int64{1, 1, 9, 1, 9}, []int64{1, 1, 1, 1, 0}},
		{5, []int64{1, 1, 9, 1, 9}, []int64{1, 1, 1, 1, 1}},
		{6, []int64{1, 1, 9, 1, 9}, []int64{1, 1, 2, 1, 1}}, // wants that are met are passed over
		{20, []int64{1, 1, 9, 1, 9}, []int64{1, 1, 9, 1, 8}},
		{21, []int64{1, 1, 9, 1, 9}, []int64{1, 1, 9, 1, 9}},
		{22, []int64{1, 1, 9, 1, 9}, []int64{1, 1, 9, 1, 9}},
		{1, []int64{0, 0, 1, 1}, []int64{0, 0, 1, 0}},

		{top, []int64{top}, []int64{top}},
		{top - 1, []int64{top}, []int64{top - 1}},
		{top, []int64{top - 1}, []int64{top - 1}},
		{1, []int64{top, top}, []int64{1, 0}},
		{top, []int64{top, top}, []int64{top / 2, top / 2}},
		{top - 1, []int64{top, top}, []int64{top / 2, top/2 - 1}},
		{top, []int64{top, top, top}, []int64{top/3 + 1, top / 3, top / 3}}, // 2^40 is 1 above a multiple of 3
		{top, []int64{top, 1}, []int64{top - 1, 1}},
		{top, []int64{1, top}, []int64{1, top - 1}},
		{top, []int64{top - 1, 1}, []int64{top - 1, 1}},
		{top, []int64{top - 1, 2}, []int64{top - 2, 2}},
		{top, []int64{top / 2, top/2 + 1}, []int64{top / 2, top / 2}},
		{1<<33 + 1, []int64{1 << 32, 1 << 33, 5}, []int64{1<<32 - 2, 1<<32 - 2, 5}},
	} {
		if l := split(t, c.total, c.wants); !slices.Equal(l, c.want) {
			t.Errorf("Split(%d, %v) is %v, not %v", c.total, c.wants, l, c.want)
		}
	}
}

func TestErrors(t *testing.T) { // P18.1
	wants := [][]int64{
		repeat(many+1, 0), repeat(many+1, 1), repeat(many+1, top), repeat(many+1, -1), make([]int64, 100000),
	}
	for _, n := range []int64{-1, -2, -top, least, least + 1, top + 1, 2 * top, 1 << 62, most - 1, most} {
		wants = append(wants, []int64{n}, []int64{n, 1, 2}, []int64{1, n, 2}, []int64{1, 2, n}, []int64{n, n}, []int64{n, -n}, append(repeat(many-1, 1), n))
		for _, l := range [][]int64{nil, {}, {0}, {1}, {3, 9, 9}, {top}, repeat(many, 1), repeat(many+1, 1), {n}} {
			if l, e := lanes.Split(n, l); e != api.ErrArg || l != nil {
				t.Errorf("Split(%d) is %v, %d", n, l, e)
			}
		}
	}
	for _, w := range wants {
		for _, total := range []int64{0, 1, 10, top, -1, top + 1} {
			if l, e := lanes.Split(total, w); e != api.ErrArg || l != nil {
				t.Errorf("Split(%d) of %d wants, %v .., is %v, %d", total, len(w), w[:1], l, e)
			}
		}
	}
}

// TestMany has as many wants as there may be, up to sums far above what a quantity can be.
func TestMany(t *testing.T) { // P18.1, P18.2
	for _, n := range []int{many - 1, many} {
		for _, total := range []int64{0, 1, 998, 999, 1000, 1001, 1999, 2000, 2001, 123456, 1<<31 - 1, 1 << 32, top / 2, top - 1, top} {
			for _, x := range []int64{0, 1, 2, 123, 1 << 31, top/1000 - 1, top / 1000, top/1000 + 1, top - 1, top} {
				want := repeat(n, min(x, total/int64(n)))
				for i := range want[:total%int64(n)] {
					if want[i] < x {
						want[i]++
					}
				}
				if l := split(t, total, repeat(n, x)); !slices.Equal(l, want) {
					t.Errorf("Split of %d among %d that want %d each: the first ones have %v", total, n, x, l[:3])
				}
			}
		}
	}
	next := numbers()
	mixed := make([]int64, many)
	for i := range mixed {
		mixed[i] = next(1 << (i % 41))
	}
	for _, total := range []int64{0, 1, 1000, 1 << 20, 1<<39 + 1, top} {
		split(t, total, mixed)
	}
}

// TestOnlyOne holds small shares against all lists: theirs alone is one by the chapter's words.
func TestOnlyOne(t *testing.T) { // P18.1
	for length := range 5 {
		lists(length, 3, func(wants []int64) {
			for total := range int64(3*length + 2) {
				var all [][]int64
				lists(length, 3, func(l []int64) {
					if isShare(total, wants, l) {
						all = append(all, slices.Clone(l))
					}
				})
				if l := split(t, total, wants); len(all) != 1 || !slices.Equal(all[0], l) {
					t.Fatalf("Split(%d, %v) is %v, of %v", total, wants, l, all)
				}
			}
		})
	}
}

func TestByOne(t *testing.T) { // P18.1
	next := numbers()
	for range 4000 {
		greatest := next(30) + 1
		wants := make([]int64, next(12))
		for i := range wants {
			wants[i] = next(greatest)
		}
		total := next(greatest*int64(len(wants)+1) + 1)
		if l, want := split(t, total, wants), byOne(total, wants); !slices.Equal(l, want) {
			t.Fatalf("Split(%d, %v) is %v, not %v", total, wants, l, want)
		}
	}
}

// follow holds what follows from the words of a share: with more nobody has less, each has at least an equal part or its want, without another one nobody has less.
func follow(t *testing.T, total, more int64, wants []int64) {
	t.Helper()
	l, greater := split(t, total, wants), split(t, more, wants)
	for i, n := range l {
		if greater[i] < n {
			t.Fatalf("of %v, with %d %d has %d, but with %d only %d", wants, total, i, n, more, greater[i])
		}
		if n < min(wants[i], total/int64(len(wants))) {
			t.Fatalf("of %v, with %d %d has only %d", wants, total, i, n)
		}
		others := split(t, total, slices.Delete(slices.Clone(wants), i, i+1))
		for j, had := range slices.Delete(slices.Clone(l), i, i+1) {
			if others[j] < had {
				t.Fatalf("of %v, with %d but without %d there are %v, not %v and more", wants, total, i, others, l)
			}
		}
	}
}

func TestFollows(t *testing.T) { // P18.2
	for length := range 5 {
		lists(length, 4, func(wants []int64) {
			for total := range int64(4*length + 2) {
				follow(t, total, total+1, wants)
			}
		})
	}
	next := numbers()
	for range 3000 {
		wants := make([]int64, next(20))
		for i := range wants {
			wants[i] = next(1<<next(41) + 1)
		}
		total := next(1<<next(41) + 1)
		follow(t, total, min(total+1, top), wants)
		follow(t, total, total+next(top-total+1), wants)
	}
}

// TestMemory holds that wants stay as they are, also what is after them, and that each share has memory of its own.
func TestMemory(t *testing.T) { // P18.1
	for _, total := range []int64{0, 2, 10, 100, top, -1} {
		whole := []int64{3, 9, 9, 77, 78, 79}
		l, e := lanes.Split(total, whole[:3])
		if !slices.Equal(whole, []int64{3, 9, 9, 77, 78, 79}) {
			t.Fatalf("with %d, %d, the wants and what is after them are %v", total, e, whole)
		}
		other, _ := lanes.Split(total, whole[:3])
		was := slices.Clone(l)
		for _, x := range [][]int64{whole, other[:cap(other)]} {
			for i := range x {
				x[i] = -5
			}
		}
		if !slices.Equal(l, was) {
			t.Errorf("with %d, what was %v is %v", total, was, l)
		}
		for i := range l[:cap(l)] {
			l[:cap(l)][i] = -6
		}
		if !slices.Equal(whole, repeat(len(whole), -5)) || !slices.Equal(other, repeat(len(other), -5)) {
			t.Errorf("with %d, what the share is changed to is elsewhere, too: %v, %v", total, whole, other)
		}
	}
}

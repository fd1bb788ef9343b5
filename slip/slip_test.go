package slip_test

import (
	"math"
	"reflect"
	"regexp"
	"slices"
	"strconv"
	"strings"
	"testing"

	"forebay/api"
	"forebay/direct"
	"forebay/slip"
	"forebay/unit"
)

const (
	top     = 1 << 40 // written out, so that a wrong limit does not agree with itself
	nodes   = 64
	wall    = 1 << 20
	qos     = 9
	after   = 8
	wants   = 4
	job     = 1 << 30
	bytes   = 10000 // of a slip
	line    = 500   // bytes of a directive's line
	name    = 32    // bytes of a name
	wrong   = api.ErrSlip
	toolong = api.ErrLong
)

var (
	nameForm   = regexp.MustCompile(`\A[a-zA-Z0-9_][a-zA-Z0-9_.-]{0,31}\z`)
	numberForm = regexp.MustCompile(`\A(0|[1-9][0-9]{0,9})\z`) // of more digits are only numbers above all bounds
	depForm    = regexp.MustCompile(`\A(ok|any):(.*)\z`)
)

// number returns the number of a text, if it is one within the bounds.
func number(s string, least, most int64) (int64, bool) {
	if !numberForm.MatchString(s) {
		return 0, false
	}
	n, _ := strconv.ParseInt(s, 10, 64)
	return n, n >= least && n <= most
}

// field stores a field, and returns its key, if it is one.
func field(x *api.Slip, f string) (string, bool) {
	key, is := "", false
	switch {
	case strings.HasPrefix(f, "user="):
		key, x.User, is = "user", f[5:], true
	case strings.HasPrefix(f, "nodes="):
		key = "nodes"
		x.Nodes, is = number(f[6:], 1, nodes)
	case strings.HasPrefix(f, "wall="):
		key = "wall"
		x.Wall, is = number(f[5:], 1, wall)
	case strings.HasPrefix(f, "qos="):
		key = "qos"
		x.Qos, is = number(f[4:], 0, qos)
	case strings.HasPrefix(f, "after="):
		key, is = "after", true
		for rest := f[6:] + ","; rest != ""; {
			one := rest[:strings.IndexByte(rest, ',')]
			rest = rest[len(one)+1:]
			m := depForm.FindStringSubmatch(one)
			if m == nil {
				return key, false
			}
			n, within := number(m[2], 1, job)
			is = is && within
			x.After = append(x.After, api.Dep{Job: n, Any: m[1] == "any"})
		}
	}
	return key, is
}

// first returns what the chapter's words say of a first line: it takes a field after the other from the line's end.
func first(s string) (api.Slip, bool) {
	var x api.Slip
	found := map[string]int{}
	for s != "job" {
		i := strings.LastIndexByte(s, ' ')
		if i < 0 {
			return api.Slip{}, false
		}
		key, is := field(&x, s[i+1:])
		if !is {
			return api.Slip{}, false
		}
		found[key]++
		s = s[:i]
	}
	return x, found["user"] == 1 && found["nodes"] == 1 && found["wall"] == 1 && found["qos"] < 2 && found["after"] < 2
}

// parse returns what the chapter's words say of a text.
func parse(s string) (api.Slip, api.Spot) {
	if len(s) > bytes {
		return api.Slip{}, api.Spot{E: toolong}
	}
	l := strings.Split(s, "\n")
	x, is := first(l[0])
	if !is {
		return api.Slip{}, api.Spot{E: wrong, Line: 1}
	}
	count := map[uint8]int{}
	for i, s := range l {
		if i == 0 || s != "#BB" && !strings.HasPrefix(s, "#BB ") {
			continue
		}
		d, e := direct.Parse(s)
		if e != api.OK {
			return api.Slip{}, api.Spot{E: e, Line: i + 1}
		}
		count[d.Kind]++
		if d.Kind <= api.DiOut && count[d.Kind] == 2 {
			return api.Slip{}, api.Spot{E: wrong, Line: i + 1}
		}
		switch d.Kind {
		case api.DiBuffer:
			x.Cap, x.Pool = d.Size, d.Pool
		case api.DiIn:
			x.In = d.Size
		case api.DiOut:
			x.Out = d.Size
		case api.DiMake:
			x.Make = append(x.Make, d)
		case api.DiDrop:
			x.Drop = append(x.Drop, d.Name)
		case api.DiUse:
			x.Use = append(x.Use, d.Name)
		}
	}
	if !valid(x) {
		return api.Slip{}, api.Spot{E: wrong, Line: len(l)}
	}
	return x, api.Spot{}
}

// valid reports what the chapter's words say of a slip.
func valid(x api.Slip) bool {
	if !nameForm.MatchString(x.User) || x.Nodes < 1 || x.Nodes > nodes || x.Wall < 1 || x.Wall > wall || x.Qos < 0 || x.Qos > qos {
		return false
	}
	if len(x.After) > after || len(x.Make) > wants || len(x.Drop) > wants || len(x.Use) > wants {
		return false
	}
	jobs, made, dropped, used := map[int64]int{}, map[string]int{}, map[string]int{}, map[string]int{}
	for _, d := range x.After {
		if jobs[d.Job]++; d.Job < 1 || d.Job > job || jobs[d.Job] > 1 {
			return false
		}
	}
	none := x.Cap == 0 && x.Pool == ""
	if !none && (x.Cap < 1 || x.Cap > top || !nameForm.MatchString(x.Pool)) {
		return false
	}
	if x.In < 0 || x.In > x.Cap || x.Out < 0 || x.Out > x.Cap {
		return false
	}
	for _, d := range x.Make {
		if made[d.Name]++; d.Kind != 4 || made[d.Name] > 1 || !nameForm.MatchString(d.Name) || !nameForm.MatchString(d.Pool) || d.Size < 1 || d.Size > top {
			return false
		}
	}
	for _, s := range x.Drop {
		if dropped[s]++; dropped[s] > 1 || !nameForm.MatchString(s) {
			return false
		}
	}
	for _, s := range x.Use {
		if used[s]++; used[s] > 1 || made[s] > 0 || !nameForm.MatchString(s) {
			return false
		}
	}
	return true
}

// text returns what the chapter's words say of a slip: its text, or nothing if it is not valid.
func text(x api.Slip) (string, api.Errno) {
	if !valid(x) {
		return "", wrong
	}
	s := "job user=" + x.User + " nodes=" + strconv.FormatInt(x.Nodes, 10) + " wall=" + strconv.FormatInt(x.Wall, 10)
	if x.Qos > 0 {
		s += " qos=" + strconv.FormatInt(x.Qos, 10)
	}
	for i, d := range x.After {
		s += []string{" after=", ","}[min(i, 1)] + map[bool]string{false: "ok:", true: "any:"}[d.Any] + strconv.FormatInt(d.Job, 10)
	}
	if x.Cap > 0 {
		s += "\n#BB jobdw capacity=" + unit.SizeText(x.Cap) + " pool=" + x.Pool
	}
	if x.In > 0 {
		s += "\n#BB stage_in size=" + unit.SizeText(x.In)
	}
	if x.Out > 0 {
		s += "\n#BB stage_out size=" + unit.SizeText(x.Out)
	}
	for _, d := range x.Make {
		s += "\n#BB create_persistent name=" + d.Name + " capacity=" + unit.SizeText(d.Size) + " pool=" + d.Pool
		if d.Open {
			s += " access=public"
		}
	}
	for _, name := range x.Drop {
		s += "\n#BB destroy_persistent name=" + name
	}
	for _, name := range x.Use {
		s += "\n#BB use_persistent name=" + name
	}
	return s, api.OK
}

// alike returns l, with nil in place of an empty list.
func alike[T any](l []T) []T { return append([]T(nil), l...) }

// copied returns a copy of x that shares no memory with it, with nil in place of empty lists.
func copied(x api.Slip) api.Slip {
	x.After, x.Make, x.Drop, x.Use = alike(x.After), alike(x.Make), alike(x.Drop), alike(x.Use)
	return x
}

// equal reports whether two slips are equal in everything.
func equal(a, b api.Slip) bool { return reflect.DeepEqual(copied(a), copied(b)) }

// hold holds Parse of one text against the chapter's words, and what follows of its result.
func hold(t *testing.T, s string) {
	t.Helper()
	want, wantF := parse(s)
	x, f := slip.Parse(s)
	if !equal(x, want) || f != wantF {
		t.Errorf("Parse(%.600q) is %v, %v, not %v, %v", s, x, f, want, wantF)
	}
	if f != (api.Spot{}) && !reflect.DeepEqual(x, api.Slip{}) {
		t.Errorf("Parse(%.600q) is %v beside an error", s, x)
	}
	if wantF == (api.Spot{}) {
		holdSlip(t, want)
	}
}

// holdSlip holds Check and Text of one slip against the chapter's words, and P15.3 of it.
func holdSlip(t *testing.T, x api.Slip) {
	t.Helper()
	before := copied(x)
	want, wantE := text(x)
	if e := slip.Check(x); e != wantE {
		t.Errorf("Check of %.600v is %d, not %d", x, e, wantE)
	}
	s, e := slip.Text(x)
	if s != want || e != wantE {
		t.Errorf("Text of %.600v is %.600q, %d, not %.600q, %d", x, s, e, want, wantE)
	}
	if wantE == api.OK {
		again, f := slip.Parse(s)
		if !equal(again, x) || f != (api.Spot{}) || !slip.Same(again, x) || !slip.Same(x, again) {
			t.Errorf("Parse of %q, which is Text of %v, is %v, %v", s, x, again, f)
		}
	}
	if !equal(x, before) {
		t.Errorf("%v has become %v", before, x)
	}
}

// put calls do with each row of at most n elements of l, each after what is between, behind s.
func put(s, between string, l []string, n int, do func(string)) {
	do(s)
	if n > 0 {
		for _, x := range l {
			put(s+between+x, between, l, n-1, do)
		}
	}
}

// orders returns the elements of l in all orders.
func orders(l []string) [][]string {
	if len(l) == 0 {
		return [][]string{nil}
	}
	var all [][]string
	for i, x := range l {
		for _, rest := range orders(slices.Delete(slices.Clone(l), i, i+1)) {
			all = append(all, append([]string{x}, rest...))
		}
	}
	return all
}

// dependencies returns an after of n jobs.
func dependencies(n int) (string, []api.Dep) {
	var l []string
	var deps []api.Dep
	for i := range n {
		l = append(l, []string{"ok:", "any:"}[i%2]+strconv.Itoa(100+i))
		deps = append(deps, api.Dep{Job: int64(100 + i), Any: i%2 == 1})
	}
	return " after=" + strings.Join(l, ","), deps
}

const begin = "job user=a nodes=2 wall=10"

// plain returns the slip of begin.
func plain() api.Slip { return api.Slip{User: "a", Nodes: 2, Wall: 10} }

// full returns a slip that has all that there can be, and its text.
func full() (api.Slip, string) {
	return api.Slip{
		User: "ann", Nodes: 64, Wall: 1 << 20, Qos: 9, After: []api.Dep{{Job: 3}, {Job: 1 << 30, Any: true}},
		Cap: 2048, In: 512, Out: 1000, Pool: "p",
		Make: []api.Direct{{Kind: api.DiMake, Name: "m", Pool: "q", Size: 1, Open: true}, {Kind: api.DiMake, Name: "l", Pool: "p", Size: top}},
		Drop: []string{"z", "m", "u"}, Use: []string{"v", "u"},
	}, "job user=ann nodes=64 wall=1048576 qos=9 after=ok:3,any:1073741824\n" +
		"#BB jobdw capacity=2KiB pool=p\n#BB stage_in size=512\n#BB stage_out size=1000\n" +
		"#BB create_persistent name=m capacity=1 pool=q access=public\n#BB create_persistent name=l capacity=1TiB pool=p\n" +
		"#BB destroy_persistent name=z\n#BB destroy_persistent name=m\n#BB destroy_persistent name=u\n#BB use_persistent name=v\n#BB use_persistent name=u"
}

func TestParse(t *testing.T) { // P15.1
	all, allText := full()
	eight, deps := dependencies(8)
	long := strings.Repeat("x", name)
	for _, c := range []struct {
		s string
		x api.Slip
	}{
		{begin, plain()},
		{begin + "\n", plain()},
		{begin + "\n\n\n", plain()},
		{begin + "\n#!/bin/sh\nsrun x", plain()},
		{"job wall=10 user=a nodes=2", plain()},
		{begin + " qos=0", plain()},
		{"job qos=9 wall=1 nodes=1 user=" + long, api.Slip{User: long, Nodes: 1, Wall: 1, Qos: 9}},
		{"job user=nodes nodes=64 wall=1048576 qos=1", api.Slip{User: "nodes", Nodes: 64, Wall: 1 << 20, Qos: 1}},
		{begin + " after=ok:1", api.Slip{User: "a", Nodes: 2, Wall: 10, After: []api.Dep{{Job: 1}}}},
		{begin + " after=any:1073741824", api.Slip{User: "a", Nodes: 2, Wall: 10, After: []api.Dep{{Job: job, Any: true}}}},
		{"job after=any:5,ok:3 user=a nodes=2 wall=10", api.Slip{User: "a", Nodes: 2, Wall: 10, After: []api.Dep{{Job: 5, Any: true}, {Job: 3}}}}, // in the order of the text
		{begin + eight, api.Slip{User: "a", Nodes: 2, Wall: 10, After: deps}},
		{"job user=a nodes=2 wall=10 after=ok:3\n#BB jobdw capacity=1KiB pool=p", api.Slip{User: "a", Nodes: 2, Wall: 10, After: []api.Dep{{Job: 3}}, Cap: 1024, Pool: "p"}},
		{begin + "\n#BB jobdw pool=p capacity=1", api.Slip{User: "a", Nodes: 2, Wall: 10, Cap: 1, Pool: "p"}},
		{begin + "\n#BB jobdw pool=p capacity=1TiB\n#BB stage_in size=1TiB\n#BB stage_out size=1TiB", api.Slip{User: "a", Nodes: 2, Wall: 10, Cap: top, In: top, Out: top, Pool: "p"}},
		{begin + "\n#BB stage_out size=3KB\nx\n\n#BB stage_in size=2\n#BB jobdw pool=p capacity=3KB", api.Slip{User: "a", Nodes: 2, Wall: 10, Cap: 3000, In: 2, Out: 3000, Pool: "p"}},
		{begin + "\n#BB use_persistent name=b\n#BB use_persistent name=a", api.Slip{User: "a", Nodes: 2, Wall: 10, Use: []string{"b", "a"}}},
		{begin + "\n#BB destroy_persistent name=a\n#BB use_persistent name=a", api.Slip{User: "a", Nodes: 2, Wall: 10, Drop: []string{"a"}, Use: []string{"a"}}},
		{begin + "\n#BB create_persistent name=a capacity=5 pool=p access=private\n#BB destroy_persistent name=a", api.Slip{User: "a", Nodes: 2, Wall: 10, Drop: []string{"a"}, Make: []api.Direct{{Kind: api.DiMake, Name: "a", Pool: "p", Size: 5}}}},
		{begin + "\n#BBjobdw\n#bb jobdw\n #BB jobdw\n#BBB\n##BB x\n#B\n#BB\t\nBB x\n#", plain()}, // none is a directive's line
		{begin + "\njob user=b nodes=3 wall=11\njob\n" + begin, plain()},                         // only the first line is read so
		{begin + "\n#BB=\n\x00\xff\r\n\u2028#BB x", plain()},
		{allText, all},
		{allText + "\n", all},
	} {
		x, f := slip.Parse(c.s)
		if f != (api.Spot{}) || !equal(x, c.x) || !slip.Same(x, c.x) {
			t.Errorf("Parse(%q) is %v, %v, not %v", c.s, x, f, c.x)
		}
		hold(t, c.s)
	}
}

// TestFirst has first lines that are not as described: whatever follows, that is the error, at 1.
func TestFirst(t *testing.T) { // P15.1
	for _, s := range []string{
		"", " ", "\r", "x", "jo", "job", "job ", "job  ", "jobs", "Job user=a nodes=2 wall=10", "JOB user=a nodes=2 wall=10", "jobs user=a nodes=2 wall=10", " job user=a nodes=2 wall=10", "\ufeffjob user=a nodes=2 wall=10",
		"job  user=a nodes=2 wall=10", "job user=a  nodes=2 wall=10", "job user=a nodes=2 wall=10 ", "job user=a nodes=2 wall=10  ", "job\tuser=a nodes=2 wall=10", "job user=a\tnodes=2 wall=10", "job user=a nodes=2 wall=10\t", "job user=a nodes=2 wall=10\r", "job user=a nodes=2 wall=10\x00", "job\x00 user=a nodes=2 wall=10", "job, user=a nodes=2 wall=10", "job job user=a nodes=2 wall=10", "job user=a nodes=2 wall=10 job", "job= user=a nodes=2 wall=10", "user=a nodes=2 wall=10", "user=a job nodes=2 wall=10", "job=1 user=a nodes=2 wall=10",
		"job user=a", "job nodes=2", "job wall=10", "job user=a nodes=2", "job user=a wall=10", "job nodes=2 wall=10", "job nodes=2 wall=10 qos=1 after=ok:1", "job user=a nodes=2 qos=1 after=ok:1", "job user=a wall=10 qos=1 after=ok:1", "job qos=1 after=ok:1", "job qos=1", "job after=ok:1",
		"job user=a user=a nodes=2 wall=10", "job user=a nodes=2 wall=10 user=b", "job user=a nodes=2 nodes=2 wall=10", "job user=a nodes=2 wall=10 nodes=3", "job user=a nodes=2 wall=10 wall=10", "job wall=1 user=a nodes=2 wall=10", "job user=a nodes=2 wall=10 qos=1 qos=1", "job user=a nodes=2 wall=10 qos=0 qos=0", "job user=a nodes=2 wall=10 qos=0 qos=1", "job user=a nodes=2 wall=10 after=ok:1 after=ok:2", "job user=a nodes=2 wall=10 after=ok:1 qos=1 after=any:2", "job user= user=a nodes=2 wall=10", "job user=a user= nodes=2 wall=10",
		"job user nodes=2 wall=10", "job user=a nodes wall=10", "job user=a nodes=2 wall", "job user=a nodes=2 wall=10 qos", "job user=a nodes=2 wall=10 after", "job user:a nodes=2 wall=10", "job user=a nodes=2 wall=10 =", "job user=a nodes=2 wall=10 =1", "job user=a nodes=2 wall=10 x", "job user=a nodes=2 wall=10 x=", "job user=a nodes=2 wall=10 x=1", "job User=a nodes=2 wall=10", "job USER=a nodes=2 wall=10", "job users=a nodes=2 wall=10", "job use=a nodes=2 wall=10", "job  =a nodes=2 wall=10", "job =a nodes=2 wall=10", "job user =a nodes=2 wall=10", "job user=a node=2 wall=10", "job user=a nodes=2 walls=10", "job user=a nodes=2 wall=10 name=b", "job user=a nodes=2 wall=10 size=1", "job user=a nodes=2 wall=10 pool=p", "job user=a nodes=2 wall=10 cap=1",
		"job user=a b nodes=2 wall=10", "job user= a nodes=2 wall=10", "job user=a ,nodes=2 wall=10", "job user=\"a b\" nodes=2 wall=10", "job user=a,nodes=2,wall=10", "job user=a;nodes=2 wall=10",
		"#BB", "#BB ", "#BB x", "#BB stage_in size=1", "#BB jobdw capacity=1 pool=p", "#BB job user=a nodes=2 wall=10", "#BB " + strings.Repeat("x", line), strings.Repeat("x", line+1), "#!/bin/sh",
	} {
		for _, more := range []string{"", "\n", "\nx", "\n#BB", "\n#BB x", "\n#BB stage_in size=1", "\n" + begin} {
			if x, f := slip.Parse(s + more); !reflect.DeepEqual(x, api.Slip{}) || f != (api.Spot{E: wrong, Line: 1}) {
				t.Errorf("Parse(%q) is %v, %v", s+more, x, f)
			}
			hold(t, s+more)
		}
	}
}

// TestNumbers has all fields that are numbers with texts at the edges: they are refused at once, not with the slip.
func TestNumbers(t *testing.T) { // P15.1, P15.3
	texts := []string{"", "-1", "+1", "-0", "00", "01", "1.", "1.0", "1e1", "0x1", "1_0", "1 ", " 1", "1\t", "1\r", "1,", ",1", "1:", "=1", "1=", "a", "\u0661", "1\x00", "1KB", "1KiB", "99999999999999999999", "18446744073709551617", "4294967297", "1099511627776", "1099511627777", "0000000000000001", "9223372036854775807", strings.Repeat("9", 400), strings.Repeat("0", 400)}
	for _, n := range []int64{0, 1, 2, 3, 8, 9, 10, 11, 31, 32, 33, 63, 64, 65, 99, 100, 127, 128, 255, 256, 257, 1<<20 - 1, 1 << 20, 1<<20 + 1, 1<<30 - 1, 1 << 30, 1<<30 + 1, 1 << 32, 1<<32 + 1, 1 << 40, 1<<40 + 1} {
		texts = append(texts, strconv.FormatInt(n, 10))
	}
	for _, c := range []struct {
		begin, end  string
		least, most int64
	}{
		{"job user=a wall=10 nodes=", "", 1, 64},
		{"job nodes=", " wall=10 user=a", 1, 64},
		{"job user=a nodes=2 wall=", "", 1, 1 << 20},
		{"job wall=", " user=a nodes=2", 1, 1 << 20},
		{begin + " qos=", "", 0, 9},
		{"job qos=", " wall=10 user=a nodes=2", 0, 9},
		{begin + " after=ok:", "", 1, 1 << 30},
		{begin + " after=any:", "", 1, 1 << 30},
		{begin + " after=any:7,ok:", ",ok:77", 1, 1 << 30},
		{begin + " after=ok:77,any:", ",any:7", 1, 1 << 30},
	} {
		for _, s := range texts {
			n, e := strconv.ParseInt(s, 10, 64)
			is := e == nil && strconv.FormatInt(n, 10) == s && n >= c.least && n <= c.most
			want := api.Spot{E: wrong, Line: 1}
			if is {
				want = api.Spot{}
			}
			if x, f := slip.Parse(c.begin + s + c.end + "\nx"); f != want {
				t.Errorf("Parse(%.600q) is %v, %v", c.begin+s+c.end, x, f)
			}
			hold(t, c.begin+s+c.end+"\nx")
			hold(t, c.begin+s+c.end)
		}
	}
}

func TestAfter(t *testing.T) { // P15.1
	for s, line := range map[string]int{ // the line of the error: 1, or 3, the last one, or 0 for none
		"":                      1,
		",":                     1,
		":":                     1,
		"ok":                    1,
		"any":                   1,
		"ok:":                   1,
		"any:":                  1,
		"ok1":                   1,
		"ok=1":                  1,
		"ok:1":                  0,
		"any:1":                 0,
		"OK:1":                  1,
		"Any:1":                 1,
		"okay:1":                1,
		"o:1":                   1,
		"an:1":                  1,
		"all:1":                 1,
		"ok::1":                 1,
		":ok:1":                 1,
		"ok:1:":                 1,
		"ok:1:2":                1,
		"1":                     1,
		":1":                    1,
		"ok:any:1":              1,
		"any:ok:1":              1,
		"ok,any:1":              1,
		"ok:1,":                 1,
		",ok:1":                 1,
		"ok:1,,ok:2":            1,
		"ok:1,2":                1,
		"ok:1;ok:2":             1,
		"ok:1, ok:2":            1,
		"ok:1 ok:2":             1,
		"ok:1,ok":               1,
		"ok:1,any:0":            1,
		"ok:0,any:1":            1,
		"ok:1,ok:2":             0,
		"ok:2,ok:1":             0,
		"ok:1,any:2":            0,
		"any:1,ok:2":            0,
		"ok:1,ok:1":             3,
		"ok:1,any:1":            3,
		"any:1,ok:1":            3,
		"any:1,any:1,any:1":     3,
		"any:2,ok:1,any:3,ok:2": 3,
		"any:2,ok:1,any:3,ok:1": 3,
		"any:2,ok:2,any:0":      1,
		"ok:1,ok:2,ok:3,ok:4,ok:5,ok:6,ok:7,ok:8":            0,
		"ok:1,ok:2,ok:3,ok:4,ok:5,ok:6,ok:7,any:1":           3,
		"ok:1,ok:2,ok:3,ok:4,ok:5,ok:6,ok:7,any:8,any:9":     3,
		"ok:1,ok:2,ok:3,ok:4,ok:5,ok:6,ok:7,ok:8,ok:8":       3,
		"ok:1,ok:2,ok:3,ok:4,ok:5,ok:6,ok:7,ok:8,ok:9,x":     1,
		"ok:1,ok:2,ok:3,ok:4,ok:5,ok:6,ok:7,ok:8,ok:9,ok:10": 3,
	} {
		all := begin + " after=" + s + "\nx\n"
		want := api.Spot{}
		if line > 0 {
			want = api.Spot{E: wrong, Line: line}
		}
		if x, f := slip.Parse(all); f != want {
			t.Errorf("Parse(%q) is %v, %v", all, x, f)
		}
		hold(t, all)
	}
	put("job user=a wall=10 nodes=2 after=", "", []string{"ok", "any", ":", ",", "1", "2", "0", "ok:3", "any:4,"}, 5, func(s string) { hold(t, s+"\n") })
}

// TestLast has slips that are not valid, though each line is as described: the last line is where that is said.
func TestLast(t *testing.T) { // P15.1
	nine, _ := dependencies(9)
	l := []string{
		"job user= nodes=2 wall=10", "job user=! nodes=2 wall=10", "job user=-a nodes=2 wall=10", "job user=.a nodes=2 wall=10", "job user=a=b nodes=2 wall=10", "job user== nodes=2 wall=10", "job user==a nodes=2 wall=10", "job user=a,b nodes=2 wall=10", "job user=a\tb nodes=2 wall=10", "job user=a\r nodes=2 wall=10", "job user=\x00 nodes=2 wall=10", "job user=\xff nodes=2 wall=10", "job user=\u00e9 nodes=2 wall=10", "job user=a\u00a0b nodes=2 wall=10", "job user=user=a nodes=2 wall=10", "job user=#BB nodes=2 wall=10",
		"job user=" + strings.Repeat("x", name+1) + " nodes=2 wall=10", "job user=" + strings.Repeat("x", 5000) + " nodes=2 wall=10", "job nodes=2 wall=10 user=a\r", "job nodes=2 wall=10 user=a\t", "job nodes=2 wall=10 user=",
		begin + " after=ok:1,ok:1", begin + nine,
		begin + "\n#BB stage_in size=1", begin + "\n#BB stage_out size=1", begin + "\n#BB stage_in size=1\n#BB stage_out size=1",
		begin + "\n#BB jobdw capacity=1 pool=p\n#BB stage_in size=2", begin + "\n#BB stage_in size=2\n#BB jobdw capacity=1 pool=p", begin + "\n#BB jobdw capacity=1KB pool=p\n#BB stage_in size=1KiB", begin + "\n#BB jobdw capacity=1KB pool=p\n#BB stage_out size=1001", begin + "\n#BB stage_in size=1\n#BB stage_out size=2\n#BB jobdw capacity=1 pool=p", begin + "\n#BB stage_in size=1TiB\n#BB jobdw capacity=1099511627775 pool=p",
		begin + "\n#BB use_persistent name=a\n#BB use_persistent name=a", begin + "\n#BB use_persistent name=a\n#BB use_persistent name=b\n#BB use_persistent name=a", begin + "\n#BB destroy_persistent name=a\n#BB destroy_persistent name=a", begin + "\n#BB destroy_persistent name=b\n#BB destroy_persistent name=a\n#BB use_persistent name=b\n#BB destroy_persistent name=a",
		begin + "\n#BB create_persistent name=a capacity=1 pool=p\n#BB create_persistent name=a capacity=2 pool=q access=public", begin + "\n#BB create_persistent name=a capacity=1 pool=p\n#BB use_persistent name=a", begin + "\n#BB use_persistent name=a\n#BB create_persistent name=a capacity=1 pool=p", begin + "\n#BB create_persistent name=b capacity=1 pool=p\n#BB use_persistent name=a\n#BB create_persistent name=a capacity=1 pool=p\n#BB use_persistent name=c",
	}
	for _, kind := range []string{"\n#BB use_persistent name=", "\n#BB destroy_persistent name=", "\n#BB create_persistent capacity=1 pool=p name="} {
		most := begin + kind + "a" + kind + "b" + kind + "c" + kind + "d"
		if x, f := slip.Parse(most); f != (api.Spot{}) {
			t.Errorf("Parse(%q) is %v, %v", most, x, f)
		}
		l = append(l, most+kind+"e", most+kind+"a", most+kind+"e"+kind+"f")
	}
	for _, s := range l {
		for _, more := range []string{"", "\n", "\nx", "\n\n\n", "\n#BBB\nx", "\n#BB use_persistent name=other", "\n#BB destroy_persistent name=other\n"} {
			want := api.Spot{E: wrong, Line: strings.Count(s+more, "\n") + 1}
			if x, f := slip.Parse(s + more); !reflect.DeepEqual(x, api.Slip{}) || f != want {
				t.Errorf("Parse(%q) is %v, %v, not %v", s+more, x, f, want)
			}
			hold(t, s+more)
		}
		// An error of a line comes before that, also in the last line.
		n := strings.Count(s, "\n") + 1
		for more, want := range map[string]api.Spot{
			"\n#BB": {E: api.ErrDirect, Line: n + 1}, "\nx\n#BB x": {E: api.ErrDirect, Line: n + 2}, "\n#BB x\nx\n": {E: api.ErrDirect, Line: n + 1},
			"\n#BB " + strings.Repeat("x", line): {E: toolong, Line: n + 1}, "\nx\n#BB " + strings.Repeat(" ", line): {E: toolong, Line: n + 2},
		} {
			if x, f := slip.Parse(s + more); !reflect.DeepEqual(x, api.Slip{}) || f != want {
				t.Errorf("Parse(%q) is %v, %v, not %v", s+more, x, f, want)
			}
		}
	}
}

// TestDirectives has lines of directives that are refused where they are.
func TestDirectives(t *testing.T) { // P15.1
	for _, c := range []struct {
		s string
		f api.Spot
	}{
		{begin + "\n#BB", api.Spot{E: api.ErrDirect, Line: 2}},
		{begin + "\n#BB ", api.Spot{E: api.ErrDirect, Line: 2}},
		{begin + "\n#BB\r", api.Spot{}},
		{begin + "\n\n#BB stage_in", api.Spot{E: api.ErrDirect, Line: 3}},
		{begin + "\n#BB stage_in size=1\r\n", api.Spot{E: api.ErrDirect, Line: 2}},
		{begin + "\n#BB stage_in size=0\n#BB stage_out size=0", api.Spot{E: api.ErrDirect, Line: 2}},
		{begin + "\n#BB jobdw capacity=2TiB pool=p\n", api.Spot{E: api.ErrDirect, Line: 2}},
		{begin + "\n#BB job user=a nodes=2 wall=10", api.Spot{E: api.ErrDirect, Line: 2}},
		{begin + "\n#BB jobdw capacity=1 pool=p\n#BB jobdw capacity=1 pool=p", api.Spot{E: wrong, Line: 3}},
		{begin + "\n#BB jobdw capacity=1 pool=p\nx\n#BB jobdw capacity=2 pool=q\nx", api.Spot{E: wrong, Line: 4}},
		{begin + "\n#BB stage_in size=1\n#BB stage_in size=1\n#BB jobdw capacity=1 pool=p", api.Spot{E: wrong, Line: 3}},
		{begin + "\n#BB stage_out size=1\n#BB stage_in size=1\n#BB jobdw capacity=1 pool=p\n#BB stage_out size=1\n", api.Spot{E: wrong, Line: 5}},
		{begin + "\n#BB stage_in size=1\n#BB jobdw capacity=1 pool=p\n#BB stage_in size=2\n#BB x", api.Spot{E: wrong, Line: 4}},
		{begin + "\n#BB stage_in size=1\n#BB jobdw capacity=1 pool=p\n#BB x\n#BB stage_in size=2", api.Spot{E: api.ErrDirect, Line: 4}},
		{begin + "\n#BB stage_in size=1\n#BB jobdw capacity=1 pool=p\n#BB stage_in size=0", api.Spot{E: api.ErrDirect, Line: 4}}, // layer 14's comes first
		{begin + "\n#BB jobdw capacity=1 pool=p\n#BB jobdw capacity=1 pool=p" + strings.Repeat(" ", line), api.Spot{E: toolong, Line: 3}},
		{begin + "\n#BB use_persistent name=a\n#BB use_persistent name=a\n#BB x", api.Spot{E: api.ErrDirect, Line: 4}},
		{"job user=! nodes=2 wall=10\n#BB stage_in size=1\n#BB stage_in size=1", api.Spot{E: wrong, Line: 3}},
		{"job user=! nodes=2 wall=10\n#BB stage_in size=1\n#BB stage_in size=1\n\n", api.Spot{E: wrong, Line: 3}},
		{"job user=a nodes=0 wall=10", api.Spot{E: wrong, Line: 1}},
		{"job user=a nodes=1 wall=10\n#BB stage_in size=1", api.Spot{E: wrong, Line: 2}},
	} {
		if x, f := slip.Parse(c.s); f != c.f {
			t.Errorf("Parse(%q) is %v, %v, not %v", c.s, x, f, c.f)
		}
		hold(t, c.s)
	}
}

// TestFields has first lines with all rows of up to five fields, of which some are not valid, and of up to six of some of these.
func TestFields(t *testing.T) { // P15.1, P15.3
	good := 0
	do := func(s string) {
		hold(t, s+"\n")
		if _, f := parse(s + "\n"); f == (api.Spot{}) {
			good++
		}
	}
	put("job", " ", []string{"user=a", "user=", "nodes=2", "nodes=0", "wall=3", "wall", "qos=0", "qos=4", "after=ok:1", "after=", "", "=", "x=1"}, 4, do)
	put("job", " ", []string{"user=a", "nodes=2", "wall=3", "qos=4", "after=any:1", "x=1"}, 6, do)
	// Of three fields 6 each; of four 24 with each that can be left out, of which the first list has three; of five 120.
	if want := 6 + 3*24 + 6 + 2*24 + 120; good != want {
		t.Errorf("%d lines are valid, not %d", good, want)
	}
}

// TestLines has all rows of up to four of these lines.
func TestLines(t *testing.T) { // P15.1, P15.3
	put(begin, "\n", []string{
		"", "x", "#BB", "#BB stage_in size=1", "#BB stage_in size=3", "#BB stage_out size=2", "#BB jobdw capacity=2 pool=p", "#BB jobdw capacity=1KiB pool=q",
		"#BB create_persistent name=a capacity=1 pool=p", "#BB create_persistent name=b capacity=2 pool=p access=public", "#BB destroy_persistent name=a", "#BB destroy_persistent name=b", "#BB use_persistent name=a", "#BB use_persistent name=b",
	}, 4, func(s string) { hold(t, s) })
	put(begin, "\n#BB use_persistent name=", []string{"a", "b", "c", "d", "e"}, 5, func(s string) { hold(t, s) })
}

// TestAnyByte puts each byte at each place of slips that are valid, in place of each of theirs, and leaves out each piece of them; of a long one some of that.
func TestAnyByte(t *testing.T) { // P15.1, P15.3
	_, all := full()
	for _, s := range []string{
		begin,
		begin + " qos=1 after=ok:12,any:3\n",
		"job qos=9 wall=1 after=any:1073741824 nodes=64 user=a.b-c\nx\n#BB jobdw pool=p capacity=2KiB\n#BB stage_in size=1024",
		all,
	} {
		hold(t, s)
		step, piece := 1, len(s)
		if s == all {
			step, piece = 15, 30
		}
		for i := range len(s) + 1 {
			for b := i % step; b < 256; b += step {
				one := string([]byte{byte(b)})
				hold(t, s[:i]+one+s[i:])
				hold(t, s[:i]+one+s[min(i+1, len(s)):])
			}
			for _, one := range []string{"\n", " ", "#", "=", "0", "1", "a", "x", ",", ":"} {
				hold(t, s[:i]+one+s[i:])
				hold(t, s[:i]+one+s[min(i+1, len(s)):])
			}
			for j := i; j <= min(len(s), i+piece); j++ {
				hold(t, s[:i]+s[j:])
				hold(t, s[:j]+s[i:]) // or has it twice
			}
		}
	}
}

// TestOrders has directives in all orders, with other lines between them.
func TestOrders(t *testing.T) { // P15.3
	want, _ := full()
	kinds := []string{ // what is of one kind stays in order
		"#BB jobdw capacity=2KiB pool=p\n", "#BB stage_in size=512\n", "#BB stage_out size=1000\n",
		"#BB create_persistent name=m capacity=1 pool=q access=public\nx\n#BB create_persistent name=l capacity=1TiB pool=p\n",
		"#BB destroy_persistent name=z\n#BB destroy_persistent name=m\n\n#BB destroy_persistent name=u\n", "#BB use_persistent name=v\n#BBB\n#BB use_persistent name=u\n",
	}
	fields := []string{" user=ann", " nodes=64", " wall=1048576", " qos=9", " after=ok:3,any:1073741824"}
	between := []string{"", "\n", "x\n", "#!/bin/sh\n# a\n", "job user=b nodes=1 wall=1\n", "#bb stage_in size=0\n", strings.Repeat("y", 600) + "\n"}
	rows := orders(fields)
	for i, row := range orders(kinds) {
		other := between[i%len(between)]
		s := "job" + strings.Join(rows[i%len(rows)], "") + "\n" + other + strings.Join(row, other)
		if x, f := slip.Parse(s); f != (api.Spot{}) || !equal(x, want) {
			t.Errorf("Parse(%q) is %v, %v", s, x, f)
		}
	}
	back, f := slip.Parse(begin + "\n#BB use_persistent name=u\n#BB use_persistent name=v") // those of one kind are in the order of their lines
	if f != (api.Spot{}) || !slices.Equal(back.Use, []string{"u", "v"}) {
		t.Error(back, f)
	}
}

// TestLong has texts at the limit, and huge ones, and lines that are long.
func TestLong(t *testing.T) { // P15.1
	x, all := full()
	for _, c := range []struct{ begin, end string }{
		{all + "\n", "x"}, {all + "\n#BBB", " "}, {all, "\n"}, {all, "\n#BBx"}, {all + "\n#BB ", "x"}, {all + "\n\n#BB ", " "}, {all, "x"}, {all, " "},
		{begin + "\n#BB use_persistent name=", "a"}, {begin + "\n#BB use_persistent name=a", " "}, {begin, "\n#BB"}, {begin, "\n#BB use_persistent name=a"}, {begin, "\n#BB stage_in size=1"},
		{begin, " "}, {begin, "0"}, {begin, "\x00"}, {begin, " qos=1"}, {begin + " after=ok:1", ",ok:1"}, {begin + " after=ok:1", "0"}, {"job nodes=1 wall=1 user=", "x"}, {"job nodes=1 wall=1 user=", "="}, {"job user=! nodes=1 wall=1", "\n"},
		{"", "x"}, {"", "\n"}, {"", " "}, {"", "\xff"}, {"job", " "}, {"job ", "x"}, {"#BB ", "x"},
	} {
		s := c.begin + strings.Repeat(c.end, 1<<20)
		for n := bytes - 20; n < bytes+20; n++ {
			hold(t, s[:n])
			if _, f := slip.Parse(s[:n]); (f == api.Spot{E: toolong}) != (n > bytes) {
				t.Errorf("Parse of %d bytes of %.100q is %v", n, s, f)
			}
		}
		hold(t, s)
	}
	pad := strings.Repeat("x", bytes-len(all)-1)
	if y, f := slip.Parse(all + "\n" + pad); f != (api.Spot{}) || !equal(y, x) {
		t.Errorf("Parse of %d bytes is %v, %v", bytes, y, f)
	}
	if y, f := slip.Parse(all + "\n" + pad + "x"); f != (api.Spot{E: toolong}) || !reflect.DeepEqual(y, api.Slip{}) {
		t.Errorf("Parse of %d bytes is %v, %v", bytes+1, y, f)
	}
	for n := line - 20; n < line+20; n++ { // a directive's line at its own limit
		long := "#BB use_persistent name=" + strings.Repeat("a", n-24)
		want := api.ErrDirect
		if n > line {
			want = toolong
		}
		if y, f := slip.Parse(all + "\n" + long + "\n"); !reflect.DeepEqual(y, api.Slip{}) || f != (api.Spot{E: want, Line: 12}) {
			t.Errorf("Parse with a line of %d bytes is %v, %v", len(long), y, f)
		}
	}
	for _, other := range []string{"#", "#BBB ", " #BB ", "#BB\t"} { // others can be of any length
		if y, f := slip.Parse(all + "\n" + other + strings.Repeat("x", 5000)); f != (api.Spot{}) || !equal(y, x) {
			t.Errorf("Parse with a long line of %q is %v, %v", other, y, f)
		}
	}
}

// change returns slips in which one thing is another one than in x: one that is valid, or one that is not.
type change func(x api.Slip, valid bool) []api.Slip

// numbers returns what changes the number at a place of a slip.
func numbers(at func(*api.Slip) *int64, good, bad []int64) change {
	return func(x api.Slip, valid bool) []api.Slip {
		return each(x, at, good, bad, valid)
	}
}

// names returns what changes the name at a place of a slip.
func names(at func(*api.Slip) *string) change {
	return func(x api.Slip, valid bool) []api.Slip {
		good := []string{"a", "Z", "0", "_", "a.b-c", "user", strings.Repeat("x", name)}
		bad := []string{"", "-", ".", "-a", "a b", "a=b", "a\n", "\n", " ", "a\n#BB stage_in size=1", "a nodes=1", "\u00e9", "\xff", "\x00", strings.Repeat("x", name+1), strings.Repeat("x", 2*bytes)}
		return each(x, at, good, bad, valid)
	}
}

// each returns copies of x that have each of these at a place.
func each[T any](x api.Slip, at func(*api.Slip) *T, good, bad []T, valid bool) []api.Slip {
	l := bad
	if valid {
		l = good
	}
	var all []api.Slip
	for _, v := range l {
		y := copied(x)
		*at(&y) = v
		all = append(all, y)
	}
	return all
}

// changes returns what changes each thing of a full slip.
func changes() map[string]change {
	return map[string]change{
		"user":     names(func(x *api.Slip) *string { return &x.User }),
		"pool":     names(func(x *api.Slip) *string { return &x.Pool }),
		"made":     names(func(x *api.Slip) *string { return &x.Make[1].Name }),
		"its pool": names(func(x *api.Slip) *string { return &x.Make[0].Pool }),
		"dropped":  names(func(x *api.Slip) *string { return &x.Drop[2] }),
		"used":     names(func(x *api.Slip) *string { return &x.Use[0] }),
		"nodes":    numbers(func(x *api.Slip) *int64 { return &x.Nodes }, []int64{1, 2, 63, 64}, []int64{math.MinInt64, -1, 0, 65, 1<<32 + 1, math.MaxInt64}),
		"wall":     numbers(func(x *api.Slip) *int64 { return &x.Wall }, []int64{1, 2, 1 << 20}, []int64{math.MinInt64, -1, 0, 1<<20 + 1, 1<<32 + 1, top, math.MaxInt64}),
		"qos":      numbers(func(x *api.Slip) *int64 { return &x.Qos }, []int64{0, 1, 8, 9}, []int64{math.MinInt64, -1, 10, 1 << 32, math.MaxInt64}),
		"job":      numbers(func(x *api.Slip) *int64 { return &x.After[1].Job }, []int64{1, 2, 4, 1 << 30}, []int64{math.MinInt64, -3, -1, 0, 3, 1<<30 + 1, 1 << 32, top, math.MaxInt64}),
		"capacity": numbers(func(x *api.Slip) *int64 { return &x.Cap }, []int64{1000, 1001, 1024, top - 1, top}, []int64{math.MinInt64, -top, -1, 0, 1, 511, 512, 999, top + 1, math.MaxInt64}),
		"in":       numbers(func(x *api.Slip) *int64 { return &x.In }, []int64{0, 1, 2047, 2048}, []int64{math.MinInt64, -1, 2049, top, top + 1, math.MaxInt64}),
		"out":      numbers(func(x *api.Slip) *int64 { return &x.Out }, []int64{0, 1, 2047, 2048}, []int64{math.MinInt64, -1, 2049, top, top + 1, math.MaxInt64}),
		"size":     numbers(func(x *api.Slip) *int64 { return &x.Make[1].Size }, []int64{1, 2, 1024, 3000, top}, []int64{math.MinInt64, -1, 0, top + 1, math.MaxInt64}),
	}
}

// TestCheck changes one thing of a valid slip, and two things of it.
func TestCheck(t *testing.T) { // P15.2, P15.3
	x, want := full()
	if s, e := slip.Text(x); s != want || e != api.OK || slip.Check(x) != api.OK {
		t.Errorf("Text is %q, %d", s, e)
	}
	all := changes()
	for what, change := range all {
		for _, is := range []bool{true, false} {
			for _, y := range change(x, is) {
				e := slip.Check(y)
				s, f := slip.Text(y)
				if is != (e == api.OK) || is != (f == api.OK) || is != (s != "") || !is && (e != wrong || f != wrong) {
					t.Errorf("with another %s of %.300v Check is %d, Text %.300q, %d", what, y, e, s, f)
				}
				holdSlip(t, y)
				for _, other := range all {
					for _, z := range slices.Concat(other(y, true), other(y, false)) {
						holdSlip(t, z)
					}
				}
			}
		}
	}
}

// TestOne has slips that are not valid for one reason, and those like them that are.
func TestOne(t *testing.T) { // P15.2
	with := func(change func(x *api.Slip)) api.Slip {
		x := plain()
		change(&x)
		return x
	}
	d := func(names ...string) []api.Direct {
		var l []api.Direct
		for _, s := range names {
			l = append(l, api.Direct{Kind: api.DiMake, Name: s, Pool: "p", Size: 1})
		}
		return l
	}
	_, eight := dependencies(8)
	_, nine := dependencies(9)
	for i, c := range []struct {
		change func(x *api.Slip)
		want   api.Errno
	}{
		{func(x *api.Slip) {}, api.OK},
		{func(x *api.Slip) { *x = api.Slip{} }, wrong},
		{func(x *api.Slip) { x.User = "" }, wrong},
		{func(x *api.Slip) { x.Nodes = 0 }, wrong},
		{func(x *api.Slip) { x.Wall = 0 }, wrong},
		{func(x *api.Slip) { x.After = []api.Dep{} }, api.OK},
		{func(x *api.Slip) { x.After = eight }, api.OK},
		{func(x *api.Slip) { x.After = nine }, wrong},
		{func(x *api.Slip) { x.After = []api.Dep{{Job: 1}, {Job: 1}} }, wrong},
		{func(x *api.Slip) { x.After = []api.Dep{{Job: 1}, {Job: 1, Any: true}} }, wrong},
		{func(x *api.Slip) { x.After = []api.Dep{{Job: 1}, {Job: 2}, {Job: 3}, {Job: 1, Any: true}} }, wrong},
		{func(x *api.Slip) { x.After = []api.Dep{{Job: 0}} }, wrong},
		{func(x *api.Slip) { x.After = []api.Dep{{Job: 1}, {}} }, wrong},
		{func(x *api.Slip) { x.Cap, x.Pool = 1, "p" }, api.OK},
		{func(x *api.Slip) { x.Cap = 1 }, wrong},
		{func(x *api.Slip) { x.Pool = "p" }, wrong},
		{func(x *api.Slip) { x.Pool = "-" }, wrong},
		{func(x *api.Slip) { x.Cap = -1 }, wrong},
		{func(x *api.Slip) { x.Cap, x.Pool = -1, "p" }, wrong},
		{func(x *api.Slip) { x.Cap, x.Pool = 1, "p q" }, wrong},
		{func(x *api.Slip) { x.In = 1 }, wrong},
		{func(x *api.Slip) { x.Out = 1 }, wrong},
		{func(x *api.Slip) { x.In = -1 }, wrong},
		{func(x *api.Slip) { x.Out = -1 }, wrong},
		{func(x *api.Slip) { x.Cap, x.Pool, x.In, x.Out = 1, "p", 1, 1 }, api.OK},
		{func(x *api.Slip) { x.Cap, x.Pool, x.In = 1, "p", 2 }, wrong},
		{func(x *api.Slip) { x.Cap, x.Pool, x.Out = 1, "p", 2 }, wrong},
		{func(x *api.Slip) { x.Cap, x.Pool, x.In = 1, "p", -1 }, wrong},
		{func(x *api.Slip) { x.Cap, x.In, x.Out = -1, -1, -1 }, wrong},
		{func(x *api.Slip) { x.Cap, x.Pool, x.In = top+1, "p", top+1 }, wrong},
		{func(x *api.Slip) { x.Make = d("a", "b", "c", "d") }, api.OK},
		{func(x *api.Slip) { x.Make = d("a", "b", "c", "d", "e") }, wrong},
		{func(x *api.Slip) { x.Make = d("a", "b", "a") }, wrong},
		{func(x *api.Slip) { x.Make = d("a", "-") }, wrong},
		{func(x *api.Slip) { x.Make = d("a", "b"); x.Make[1].Pool = "" }, wrong},
		{func(x *api.Slip) { x.Make = d("a", "a"); x.Make[1].Pool = "q" }, wrong},
		{func(x *api.Slip) { x.Make = d("a", "b"); x.Make[1].Size = 0 }, wrong},
		{func(x *api.Slip) { x.Make = d("a", "b"); x.Make[1].Open = true }, api.OK},
		{func(x *api.Slip) { x.Make = d("a", "b"); x.Make[1].Kind = 0 }, wrong},
		{func(x *api.Slip) { x.Make = d("a", "b"); x.Make[1].Kind = 7 }, wrong},
		{func(x *api.Slip) { x.Make = []api.Direct{{}} }, wrong},
		{func(x *api.Slip) { x.Make = []api.Direct{{Kind: api.DiBuffer, Pool: "p", Size: 1}} }, wrong}, // a valid directive, but of another kind
		{func(x *api.Slip) { x.Make = []api.Direct{{Kind: api.DiIn, Size: 1}} }, wrong},
		{func(x *api.Slip) { x.Make = []api.Direct{{Kind: api.DiOut, Size: 1}} }, wrong},
		{func(x *api.Slip) { x.Make = []api.Direct{{Kind: api.DiDrop, Name: "a"}} }, wrong},
		{func(x *api.Slip) { x.Make = []api.Direct{{Kind: api.DiUse, Name: "a"}} }, wrong},
		{func(x *api.Slip) { x.Drop = []string{"a", "b", "c", "d"} }, api.OK},
		{func(x *api.Slip) { x.Drop = []string{"a", "b", "c", "d", "e"} }, wrong},
		{func(x *api.Slip) { x.Drop = []string{"a", "b", "c", "b"} }, wrong},
		{func(x *api.Slip) { x.Drop = []string{""} }, wrong},
		{func(x *api.Slip) { x.Drop = []string{"a", "b c"} }, wrong},
		{func(x *api.Slip) { x.Use = []string{"a", "b", "c", "d"} }, api.OK},
		{func(x *api.Slip) { x.Use = []string{"a", "b", "c", "d", "e"} }, wrong},
		{func(x *api.Slip) { x.Use = []string{"b", "a", "c", "b"} }, wrong},
		{func(x *api.Slip) { x.Use = []string{""} }, wrong},
		{func(x *api.Slip) { x.Use = []string{"a", ".b"} }, wrong},
		{func(x *api.Slip) { x.Make, x.Use = d("a", "b"), []string{"c", "d"} }, api.OK},
		{func(x *api.Slip) { x.Make, x.Use = d("a", "b"), []string{"c", "b"} }, wrong},
		{func(x *api.Slip) { x.Make, x.Use = d("a", "b"), []string{"a"} }, wrong},
		{func(x *api.Slip) { x.Make, x.Drop = d("a", "b"), []string{"b", "a"} }, api.OK}, // it can drop what it makes, or uses
		{func(x *api.Slip) { x.Drop, x.Use = []string{"a", "b"}, []string{"b", "a"} }, api.OK},
		{func(x *api.Slip) {
			x.Make, x.Drop, x.Use = d("a", "b", "c", "d"), []string{"a", "b", "e", "f"}, []string{"e", "f", "g", "h"}
		}, api.OK},
	} {
		x := with(c.change)
		s, e := slip.Text(x)
		if f := slip.Check(x); f != c.want || e != c.want || (s == "") != (c.want != api.OK) {
			t.Errorf("of %d, %v, Check is %d, Text %q, %d, not %d", i, x, f, s, e, c.want)
		}
		holdSlip(t, x)
	}
}

// TestAll has slips with all of these together.
func TestAll(t *testing.T) { // P15.2, P15.3
	var makes [][]api.Direct
	for _, l := range [][]string{nil, {"a"}, {"b", "a"}, {"a", "a"}} {
		made := []api.Direct{}
		for i, s := range l {
			made = append(made, api.Direct{Kind: api.DiMake, Name: s, Pool: "p", Size: 1 << (10 * i), Open: i == 1})
		}
		makes = append(makes, made)
	}
	lists := [][]string{nil, {"a"}, {"c", "b"}, {"c", "c"}, {"-"}, {"a", "b", "c", "d"}, {"a", "b", "c", "d", "e"}}
	deps := [][]api.Dep{nil, {{Job: 1}}, {{Job: 2, Any: true}, {Job: 1}}}
	sizes := []int64{0, 1, 1024, -1}
	for _, make := range makes {
		for _, drop := range lists {
			for _, use := range lists {
				for _, cap := range sizes {
					for _, in := range sizes {
						for _, out := range sizes {
							for i, after := range deps {
								for _, pool := range []string{"", "p"} {
									holdSlip(t, api.Slip{User: "a", Nodes: 1, Wall: 1, Qos: int64(i % 2), After: after, Cap: cap, In: in, Out: out, Pool: pool, Make: make, Drop: drop, Use: use})
								}
							}
						}
					}
				}
			}
		}
	}
}

func TestSame(t *testing.T) { // P15.2
	x, _ := full()
	differ := map[string]func(y *api.Slip){
		"User":            func(y *api.Slip) { y.User = "b" },
		"Nodes":           func(y *api.Slip) { y.Nodes++ },
		"Wall":            func(y *api.Slip) { y.Wall++ },
		"Qos":             func(y *api.Slip) { y.Qos++ },
		"a Dep":           func(y *api.Slip) { y.After[1].Job++ },
		"Any":             func(y *api.Slip) { y.After[0].Any = true },
		"a Dep less":      func(y *api.Slip) { y.After = y.After[:1] },
		"no Dep":          func(y *api.Slip) { y.After = nil },
		"a Dep more":      func(y *api.Slip) { y.After = append(y.After, api.Dep{}) },
		"Deps turned":     func(y *api.Slip) { slices.Reverse(y.After) },
		"Cap":             func(y *api.Slip) { y.Cap++ },
		"In":              func(y *api.Slip) { y.In++ },
		"Out":             func(y *api.Slip) { y.Out++ },
		"In and Out":      func(y *api.Slip) { y.In, y.Out = y.Out, y.In },
		"Pool":            func(y *api.Slip) { y.Pool += "x" },
		"kind":            func(y *api.Slip) { y.Make[0].Kind++ },
		"name":            func(y *api.Slip) { y.Make[1].Name = "x" },
		"pool":            func(y *api.Slip) { y.Make[0].Pool = "x" },
		"size":            func(y *api.Slip) { y.Make[0].Size++ },
		"open":            func(y *api.Slip) { y.Make[0].Open = false },
		"a Make less":     func(y *api.Slip) { y.Make = y.Make[1:] },
		"a Make more":     func(y *api.Slip) { y.Make = append(y.Make, api.Direct{}) },
		"no Make":         func(y *api.Slip) { y.Make = nil },
		"Makes turned":    func(y *api.Slip) { slices.Reverse(y.Make) },
		"Drop":            func(y *api.Slip) { y.Drop[2] = "x" },
		"a Drop less":     func(y *api.Slip) { y.Drop = y.Drop[:2] },
		"a Drop more":     func(y *api.Slip) { y.Drop = append(y.Drop, "") },
		"no Drop":         func(y *api.Slip) { y.Drop = []string{} },
		"Drops turned":    func(y *api.Slip) { slices.Reverse(y.Drop) },
		"Use":             func(y *api.Slip) { y.Use[0] = "x" },
		"a Use less":      func(y *api.Slip) { y.Use = y.Use[:1] },
		"a Use more":      func(y *api.Slip) { y.Use = append(y.Use, "") },
		"no Use":          func(y *api.Slip) { y.Use = nil },
		"Uses turned":     func(y *api.Slip) { slices.Reverse(y.Use) },
		"Drop and Use":    func(y *api.Slip) { y.Drop, y.Use = y.Use, y.Drop },
		"User and Pool":   func(y *api.Slip) { y.User, y.Pool = y.Pool, y.User },
		"not any of this": func(y *api.Slip) { *y = api.Slip{} },
		"what is wrong":   func(y *api.Slip) { y.Nodes = -1 },
	}
	for what, change := range differ {
		y := copied(x)
		if !slip.Same(x, y) || !slip.Same(y, x) {
			t.Errorf("%v is not the same as its copy", x)
		}
		change(&y)
		if slip.Same(x, y) || slip.Same(y, x) || !slip.Same(y, copied(y)) {
			t.Errorf("with another %s Same of %v is wrong", what, y)
		}
	}
	empty := api.Slip{After: []api.Dep{}, Make: []api.Direct{}, Drop: []string{}, Use: []string{}}
	if !slip.Same(empty, api.Slip{}) || !slip.Same(api.Slip{}, empty) || !slip.Same(api.Slip{}, api.Slip{}) || !slip.Same(empty, empty) {
		t.Error("nil lists are not like empty ones")
	}
	for _, one := range []api.Slip{{User: "a"}, {Nodes: 1}, {Wall: 1}, {Qos: 1}, {After: []api.Dep{{}}}, {Cap: 1}, {In: 1}, {Out: 1}, {Pool: "a"}, {Make: []api.Direct{{}}}, {Drop: []string{""}}, {Use: []string{""}}} {
		if slip.Same(one, empty) || slip.Same(api.Slip{}, one) || !slip.Same(one, copied(one)) {
			t.Errorf("Same of %v is wrong", one)
		}
	}
}

// spare returns l with room behind it, in which there is x.
func spare[T any](l []T, x T) []T {
	return append(append(make([]T, 0, len(l)+4), l...), x, x, x, x)[:len(l)]
}

// TestMemory changes results, and looks behind arguments.
func TestMemory(t *testing.T) { // R5
	want, s := full()
	x, _ := slip.Parse(s)
	y, _ := slip.Parse(s)
	for i := range cap(x.After) {
		x.After[:cap(x.After)][i] = api.Dep{Job: 9}
	}
	for i := range cap(x.Make) {
		x.Make[:cap(x.Make)][i] = api.Direct{Name: "changed"}
	}
	for i := range cap(x.Drop) {
		x.Drop[:cap(x.Drop)][i] = "changed"
	}
	if !slices.Equal(x.Use, want.Use) {
		t.Errorf("Use and Drop share memory: %v", x.Use)
	}
	for i := range cap(x.Use) {
		x.Use[:cap(x.Use)][i] = "other"
	}
	if again, f := slip.Parse(s); !equal(y, want) || !equal(again, want) || f != (api.Spot{}) || x.Drop[0] != "changed" {
		t.Errorf("Parse is %v, then %v, %v", y, again, f)
	}
	z := copied(want)
	z.After, z.Make, z.Drop, z.Use = spare(z.After, api.Dep{Job: 77}), spare(z.Make, api.Direct{Name: "behind"}), spare(z.Drop, "behind"), spare(z.Use, "behind")
	slip.Check(z)
	slip.Text(z)
	slip.Same(z, z)
	for i := range 4 {
		if z.After[:cap(z.After)][len(z.After)+i].Job != 77 || z.Make[:cap(z.Make)][len(z.Make)+i].Name != "behind" || z.Drop[:cap(z.Drop)][len(z.Drop)+i] != "behind" || z.Use[:cap(z.Use)][len(z.Use)+i] != "behind" {
			t.Errorf("what is behind an argument has changed: %v", z)
		}
	}
	if !equal(z, want) {
		t.Errorf("%v has become %v", want, z)
	}
}

// TestHuge has slips with lists and texts that are much longer than valid ones.
func TestHuge(t *testing.T) { // P1, P15.2
	const n = 1 << 20
	deps, made, names := make([]api.Dep, n), make([]api.Direct, n), make([]string, n)
	for i := range n {
		s := strconv.Itoa(i)
		deps[i], made[i], names[i] = api.Dep{Job: int64(i + 1)}, api.Direct{Kind: api.DiMake, Name: "m" + s, Pool: "p", Size: 1}, "u"+s
	}
	huge := strings.Repeat("x", n)
	for _, change := range []func(x *api.Slip){
		func(x *api.Slip) { x.After = deps }, func(x *api.Slip) { x.Make = made }, func(x *api.Slip) { x.Drop = names }, func(x *api.Slip) { x.Use = names }, func(x *api.Slip) { x.Make, x.Use = made, names },
		func(x *api.Slip) { x.User = huge }, func(x *api.Slip) { x.Cap, x.Pool = 1, huge }, func(x *api.Slip) { x.Use = []string{huge} }, func(x *api.Slip) { x.Drop = []string{huge} }, func(x *api.Slip) { x.Make = []api.Direct{{Kind: api.DiMake, Name: huge, Pool: "p", Size: 1}} },
	} {
		x := plain()
		change(&x)
		y := x
		y.Qos++
		if s, e := slip.Text(x); slip.Check(x) != wrong || s != "" || e != wrong || !slip.Same(x, x) || slip.Same(x, y) || slip.Same(x, plain()) {
			t.Errorf("Text of a huge slip is %.100q, %d", s, e)
		}
	}
}

// TestAgain calls each twice, with errors between: nothing is kept.
func TestAgain(t *testing.T) { // R4
	want, s := full()
	for range 3 {
		for _, bad := range []string{"", s + "\n#BB", s + "\n#BB stage_in size=1", s + "\n#BB use_persistent name=u", strings.Repeat("x", bytes+1)} {
			if x, f := slip.Parse(bad); f == (api.Spot{}) || !reflect.DeepEqual(x, api.Slip{}) {
				t.Errorf("Parse(%.600q) is %v, %v", bad, x, f)
			}
			x, f := slip.Parse(s)
			line, e := slip.Text(x)
			if !equal(x, want) || f != (api.Spot{}) || line != s || e != api.OK {
				t.Errorf("Parse is %v, %v, Text %q, %d", x, f, line, e)
			}
		}
	}
}

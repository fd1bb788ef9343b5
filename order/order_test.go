package order_test

import (
	"math"
	"math/big"
	"reflect"
	"regexp"
	"slices"
	"strconv"
	"strings"
	"testing"

	"forebay/api"
	"forebay/order"
	"forebay/slip"
)

const (
	top     = 1 << 40 // written out, so that a wrong limit does not agree with itself
	ticks   = 1000
	nodes   = 64
	qos     = 9
	job     = 1 << 30
	bytes   = 10000 // of a slip
	wrong   = api.ErrOrder
	badslip = api.ErrSlip
)

// The kinds, written out for the same reason.
const (
	tick = iota + 1
	submit
	cancel
	hold
	release
	quality
	end
	fault
	fail
	up
	drain
	resume
	shut
	open
	create
	drop
	status
	show
)

const (
	numberForm = `(0|[1-9][0-9]{0,11})` // of more digits are only numbers above all bounds
	nameForm   = `([a-zA-Z0-9_][a-zA-Z0-9_.-]{0,31})`
	sizeForm   = `((?:0|[1-9][0-9]{0,12})(?:[KMGT]i?B)?)`
)

var whole = regexp.MustCompile(`\A` + nameForm + `\z`)

// form is what the chapter's table says of one word: the form of the text, and the order of what the form found.
type form struct {
	text *regexp.Regexp
	take func(m []string) (api.Order, bool)
}

// within returns the number of a text, and reports whether it is within the bounds.
func within(s string, least, most int64) (int64, bool) {
	n, _ := strconv.ParseInt(s, 10, 64)
	return n, n >= least && n <= most
}

// size returns the number of a size's text, and reports whether it is above 0, and no more than all.
func size(s string) (int64, bool) {
	n := new(big.Int)
	n.SetString(strings.TrimRight(s, "KMGTiB"), 10)
	if unit := strings.TrimLeft(s, "0123456789"); unit != "" {
		by := int64(1000)
		if strings.Contains(unit, "i") {
			by = 1024
		}
		for range strings.IndexByte("KMGT", unit[0]) + 1 {
			n.Mul(n, big.NewInt(by))
		}
	}
	if n.Sign() == 0 || n.Cmp(big.NewInt(top)) > 0 {
		return 0, false
	}
	return n.Int64(), true
}

// forms returns what the chapter's table says of each word but submit.
func forms() []form {
	var l []form
	add := func(text string, take func(m []string) (api.Order, bool)) {
		text = strings.NewReplacer("<number>", numberForm, "<name>", nameForm, "<size>", sizeForm).Replace(text)
		l = append(l, form{regexp.MustCompile(`\A` + text + `\z`), take})
	}
	for word, kind := range map[string]uint8{"cancel": cancel, "hold": hold, "release": release, "status": status, "fault": fault} {
		add(word+" job=<number>", func(m []string) (api.Order, bool) {
			n, is := within(m[1], 1, job)
			return api.Order{Kind: kind, Job: n}, is
		})
	}
	for word, kind := range map[string]uint8{"fail": fail, "up": up, "drain": drain, "resume": resume} {
		add(word+" n=<number>", func(m []string) (api.Order, bool) {
			n, is := within(m[1], 0, nodes-1)
			return api.Order{Kind: kind, N: n}, is
		})
	}
	for word, kind := range map[string]uint8{"close": shut, "open": open, "pool": show} {
		add(word+" pool=<name>", func(m []string) (api.Order, bool) { return api.Order{Kind: kind, Pool: m[1]}, true })
	}
	add("tick n=<number>", func(m []string) (api.Order, bool) {
		n, is := within(m[1], 1, ticks)
		return api.Order{Kind: tick, N: n}, is
	})
	add("qos job=<number> n=<number>", func(m []string) (api.Order, bool) {
		j, is := within(m[1], 1, job)
		n, too := within(m[2], 0, qos)
		return api.Order{Kind: quality, Job: j, N: n}, is && too
	})
	add("end job=<number> result=(ok|bad)", func(m []string) (api.Order, bool) {
		j, is := within(m[1], 1, job)
		return api.Order{Kind: end, Job: j, Yes: m[2] == "ok"}, is
	})
	add("make user=<name> name=<name> capacity=<size> pool=<name> access=(public|private)", func(m []string) (api.Order, bool) {
		n, is := size(m[3])
		return api.Order{Kind: create, User: m[1], Name: m[2], Size: n, Pool: m[4], Yes: m[5] == "public"}, is
	})
	add("drop user=<name> name=<name>", func(m []string) (api.Order, bool) {
		return api.Order{Kind: drop, User: m[1], Name: m[2]}, true
	})
	return l
}

// model holds the forms, as they need time to be made.
var model = forms()

// parse returns what the chapter's words say of a text.
func parse(s string) (api.Order, api.Spot) {
	if strings.HasPrefix(s, "submit\n") {
		x, f := slip.Parse(s[7:])
		if f.E != api.OK {
			return api.Order{}, api.Spot{E: f.E, Line: f.Line + 1}
		}
		return api.Order{Kind: submit, Slip: x}, api.Spot{}
	}
	for _, f := range model {
		if m := f.text.FindStringSubmatch(s); m != nil {
			if o, is := f.take(m); is {
				return o, api.Spot{}
			}
		}
	}
	return api.Order{}, api.Spot{E: wrong, Line: 1}
}

// valid reports what the chapter's words say of an order.
func valid(o api.Order) bool {
	name := whole.MatchString
	someJob := o.Job >= 1 && o.Job <= job
	rest := o // what the kind has is taken out of it
	rest.Kind = 0
	is := false
	switch o.Kind {
	case tick:
		is, rest.N = o.N >= 1 && o.N <= ticks, 0
	case submit:
		is, rest.Slip = slip.Check(o.Slip) == api.OK, api.Slip{}
	case cancel, hold, release, status, fault:
		is, rest.Job = someJob, 0
	case quality:
		is, rest.Job, rest.N = someJob && o.N >= 0 && o.N <= qos, 0, 0
	case end:
		is, rest.Job, rest.Yes = someJob, 0, false
	case fail, up, drain, resume:
		is, rest.N = o.N >= 0 && o.N < nodes, 0
	case shut, open, show:
		is, rest.Pool = name(o.Pool), ""
	case create:
		is = name(o.User) && name(o.Name) && name(o.Pool) && o.Size >= 1 && o.Size <= top
		rest.User, rest.Name, rest.Pool, rest.Size, rest.Yes = "", "", "", 0, false
	case drop:
		is, rest.User, rest.Name = name(o.User) && name(o.Name), "", ""
	}
	return is && equal(rest, api.Order{})
}

// sizeText returns a size's text: it divides as often as that leaves nothing over.
func sizeText(n int64) string {
	units := []string{"", "KiB", "MiB", "GiB", "TiB"}
	i := 0
	for ; i < 4 && n%1024 == 0; i++ {
		n /= 1024
	}
	return strconv.FormatInt(n, 10) + units[i]
}

// text returns what the chapter's words say of an order: its text, or nothing if it is not valid.
func text(o api.Order) (string, api.Errno) {
	if !valid(o) {
		return "", wrong
	}
	words := []string{"", "tick", "submit", "cancel", "hold", "release", "qos", "end", "fault", "fail", "up", "drain", "resume", "close", "open", "make", "drop", "status", "pool"}
	s, n, j := words[o.Kind], strconv.FormatInt(o.N, 10), strconv.FormatInt(o.Job, 10)
	switch o.Kind {
	case tick, fail, up, drain, resume:
		s += " n=" + n
	case submit:
		x, _ := slip.Text(o.Slip)
		s += "\n" + x
	case cancel, hold, release, status, fault:
		s += " job=" + j
	case quality:
		s += " job=" + j + " n=" + n
	case end:
		s += " job=" + j + " result=" + map[bool]string{true: "ok", false: "bad"}[o.Yes]
	case shut, open, show:
		s += " pool=" + o.Pool
	case create:
		s += " user=" + o.User + " name=" + o.Name + " capacity=" + sizeText(o.Size) + " pool=" + o.Pool + " access=" + map[bool]string{true: "public", false: "private"}[o.Yes]
	case drop:
		s += " user=" + o.User + " name=" + o.Name
	}
	return s, api.OK
}

// alike returns a copy of l, with nil in place of an empty list.
func alike[T any](l []T) []T { return append([]T(nil), l...) }

// copied returns a copy of o that shares no memory with it, with nil in place of empty lists.
func copied(o api.Order) api.Order {
	x := &o.Slip
	x.After, x.Make, x.Drop, x.Use = alike(x.After), alike(x.Make), alike(x.Drop), alike(x.Use)
	return o
}

// equal reports whether two orders are equal in everything.
func equal(a, b api.Order) bool { return reflect.DeepEqual(copied(a), copied(b)) }

// holdText holds Parse of one text against the chapter's words, and what follows of its result.
func holdText(t *testing.T, s string) {
	t.Helper()
	want, wantF := parse(s)
	o, f := order.Parse(s)
	if !equal(o, want) || f != wantF {
		t.Errorf("Parse(%.600q) is %v, %v, not %v, %v", s, o, f, want, wantF)
	}
	if f != (api.Spot{}) {
		if !reflect.DeepEqual(o, api.Order{}) {
			t.Errorf("Parse(%.600q) is %v beside an error", s, o)
		}
		return
	}
	holdOrder(t, want)
	if again, e := order.Text(o); o.Kind != submit && o.Kind != create && again != s || e != api.OK { // each has one text
		t.Errorf("Text of what %.600q is read as is %.600q, %d", s, again, e)
	}
}

// holdOrder holds Check and Text of one order against the chapter's words, and P16.3 of it.
func holdOrder(t *testing.T, o api.Order) {
	t.Helper()
	before := copied(o)
	want, wantE := text(o)
	if e := order.Check(o); e != wantE {
		t.Errorf("Check of %.600v is %d, not %d", o, e, wantE)
	}
	s, e := order.Text(o)
	if s != want || e != wantE {
		t.Errorf("Text of %.600v is %.600q, %d, not %.600q, %d", o, s, e, want, wantE)
	}
	if wantE == api.OK {
		again, f := order.Parse(s)
		if !equal(again, o) || f != (api.Spot{}) || !order.Same(again, o) || !order.Same(o, again) {
			t.Errorf("Parse of %q, which is Text of %v, is %v, %v", s, o, again, f)
		}
	}
	if !equal(o, before) {
		t.Errorf("%v has become %v", before, o)
	}
}

// slips returns a slip that has all that there can be, and its text.
func slips() (api.Slip, string) {
	return api.Slip{
		User: "ann", Nodes: 64, Wall: 1 << 20, Qos: 9, After: []api.Dep{{Job: 3}, {Job: 1 << 30, Any: true}},
		Cap: 2048, In: 512, Out: 1000, Pool: "p",
		Make: []api.Direct{{Kind: api.DiMake, Name: "m", Pool: "q", Size: 1, Open: true}, {Kind: api.DiMake, Name: "l", Pool: "p", Size: top}},
		Drop: []string{"z", "m", "u"}, Use: []string{"v", "u"},
	}, "job user=ann nodes=64 wall=1048576 qos=9 after=ok:3,any:1073741824\n" +
		"#BB jobdw capacity=2KiB pool=p\n#BB stage_in size=512\n#BB stage_out size=1000\n" +
		"#BB create_persistent name=m capacity=1 pool=q access=public\n#BB create_persistent name=l capacity=1TiB pool=p\n" +
		"#BB destroy_persistent name=z\n#BB destroy_persistent name=m\n#BB destroy_persistent name=u\n#BB use_persistent name=v\n#BB use_persistent name=u"
}

const short = "job user=a nodes=1 wall=2" // the text of a slip

// one returns the slip of short.
func one() api.Slip { return api.Slip{User: "a", Nodes: 1, Wall: 2} }

// each has a valid text for each kind.
var each = []string{
	"tick n=5", "submit\n" + short, "cancel job=3", "hold job=10", "release job=3", "qos job=3 n=4", "end job=3 result=ok", "end job=12 result=bad", "fault job=3",
	"fail n=0", "up n=63", "drain n=2", "resume n=10", "close pool=p", "open pool=pp", "make user=a name=b capacity=1KiB pool=p access=public", "make user=aa name=b.c capacity=7 pool=p-q access=private",
	"drop user=a name=b", "status job=1", "pool pool=p",
}

func TestParse(t *testing.T) { // P16.1, P16.2, P16.3
	long := strings.Repeat("x", 32)
	all, allText := slips()
	for _, c := range []struct {
		s string
		o api.Order
	}{
		{"tick n=1", api.Order{Kind: api.OrTick, N: 1}},
		{"tick n=5", api.Order{Kind: api.OrTick, N: 5}},
		{"tick n=1000", api.Order{Kind: api.OrTick, N: ticks}},
		{"submit\n" + short, api.Order{Kind: api.OrSubmit, Slip: one()}},
		{"submit\n" + allText, api.Order{Kind: api.OrSubmit, Slip: all}},
		{"cancel job=1", api.Order{Kind: api.OrCancel, Job: 1}},
		{"cancel job=1073741824", api.Order{Kind: api.OrCancel, Job: job}},
		{"hold job=1", api.Order{Kind: api.OrHold, Job: 1}},
		{"hold job=1073741824", api.Order{Kind: api.OrHold, Job: job}},
		{"release job=1", api.Order{Kind: api.OrRelease, Job: 1}},
		{"release job=1073741824", api.Order{Kind: api.OrRelease, Job: job}},
		{"qos job=1 n=0", api.Order{Kind: api.OrQos, Job: 1}},
		{"qos job=1073741824 n=9", api.Order{Kind: api.OrQos, Job: job, N: qos}},
		{"qos job=2 n=1", api.Order{Kind: api.OrQos, Job: 2, N: 1}},
		{"end job=3 result=ok", api.Order{Kind: api.OrEnd, Job: 3, Yes: true}},
		{"end job=1073741824 result=bad", api.Order{Kind: api.OrEnd, Job: job}},
		{"fault job=1", api.Order{Kind: api.OrFault, Job: 1}},
		{"fault job=1073741824", api.Order{Kind: api.OrFault, Job: job}},
		{"fail n=0", api.Order{Kind: api.OrFail}},
		{"fail n=63", api.Order{Kind: api.OrFail, N: nodes - 1}},
		{"up n=0", api.Order{Kind: api.OrUp}},
		{"up n=63", api.Order{Kind: api.OrUp, N: nodes - 1}},
		{"drain n=0", api.Order{Kind: api.OrDrain}},
		{"drain n=63", api.Order{Kind: api.OrDrain, N: nodes - 1}},
		{"resume n=0", api.Order{Kind: api.OrResume}},
		{"resume n=63", api.Order{Kind: api.OrResume, N: nodes - 1}},
		{"close pool=p", api.Order{Kind: api.OrClose, Pool: "p"}},
		{"close pool=" + long, api.Order{Kind: api.OrClose, Pool: long}},
		{"open pool=0.-", api.Order{Kind: api.OrOpen, Pool: "0.-"}},
		{"open pool=" + long, api.Order{Kind: api.OrOpen, Pool: long}},
		{"pool pool=pool", api.Order{Kind: api.OrPool, Pool: "pool"}},
		{"pool pool=" + long, api.Order{Kind: api.OrPool, Pool: long}},
		{"make user=a name=b capacity=1KiB pool=p access=public", api.Order{Kind: api.OrMake, User: "a", Name: "b", Size: 1024, Pool: "p", Yes: true}},
		{"make user=a name=b capacity=1 pool=p access=private", api.Order{Kind: api.OrMake, User: "a", Name: "b", Size: 1, Pool: "p"}},
		{"make user=user name=name capacity=1TiB pool=access access=public", api.Order{Kind: api.OrMake, User: "user", Name: "name", Size: top, Pool: "access", Yes: true}},
		{"make user=" + long + " name=" + long + " capacity=1099511627775 pool=" + long + " access=private", api.Order{Kind: api.OrMake, User: long, Name: long, Size: top - 1, Pool: long}},
		{"drop user=a name=b", api.Order{Kind: api.OrDrop, User: "a", Name: "b"}},
		{"drop user=" + long + " name=_", api.Order{Kind: api.OrDrop, User: long, Name: "_"}},
		{"status job=1", api.Order{Kind: api.OrStatus, Job: 1}},
		{"status job=1073741824", api.Order{Kind: api.OrStatus, Job: job}},
	} {
		o, f := order.Parse(c.s)
		s, e := order.Text(c.o)
		if f != (api.Spot{}) || !equal(o, c.o) || !order.Same(o, c.o) || s != c.s || e != api.OK || order.Check(c.o) != api.OK {
			t.Errorf("Parse(%q) is %v, %v, not %v; Text is %q, %d", c.s, o, f, c.o, s, e)
		}
		holdText(t, c.s)
	}
	for _, s := range each {
		if _, f := order.Parse(s); f != (api.Spot{}) {
			t.Errorf("Parse(%q) is %v", s, f)
		}
		holdText(t, s)
	}
}

// TestSizes has the sizes that are read as a size that is written otherwise.
func TestSizes(t *testing.T) { // P16.1, P16.3
	for s, want := range map[string]int64{
		"1024": 1024, "1KiB": 1024, "1KB": 1000, "1000": 1000, "2MB": 2_000_000, "3GB": 3_000_000_000, "1TB": 1_000_000_000_000, "1024KiB": 1 << 20, "1MiB": 1 << 20,
		"1048576": 1 << 20, "1024MiB": 1 << 30, "5GiB": 5 << 30, "1024GiB": top, "1TiB": top, "1099511627776": top, "1073741824KiB": top, "1099511627KB": 1_099_511_627_000, "1099GB": 1_099_000_000_000,
	} {
		o, f := order.Parse("make user=a name=b capacity=" + s + " pool=p access=private")
		if f != (api.Spot{}) || !equal(o, api.Order{Kind: api.OrMake, User: "a", Name: "b", Size: want, Pool: "p"}) {
			t.Errorf("with the size %s Parse is %v, %v", s, o, f)
		}
		holdText(t, "make user=a name=b capacity="+s+" pool=p access=private")
	}
	for _, s := range []string{
		"", "0", "00", "01", "0KB", "0KiB", "0TiB", "-1", "+1", "1 ", "1B", "1K", "1kB", "1KIB", "1kib", "1KiBs", "1 KiB", "KiB", "1.5KiB", "1KiBKiB", "01KiB", "1099511627777", "2TB", "2TiB", "1025GiB", "1073741825KiB", "1099511628KB", "9999999999999",
		"9999999999999TiB", "10000000000000", "16777216TiB", "18446744073709551617", "9223372036854775807", strings.Repeat("9", 400), "0x10", "1e3", "1_0", "\u0661", "1\x00",
	} {
		o, f := order.Parse("make user=a name=b capacity=" + s + " pool=p access=private")
		if f != (api.Spot{E: wrong, Line: 1}) || !reflect.DeepEqual(o, api.Order{}) {
			t.Errorf("with the size %s Parse is %v, %v", s, o, f)
		}
	}
}

// TestWrong has texts that are none of an order: that is the error, at 1.
func TestWrong(t *testing.T) { // P16.1
	names := []string{"", "-", "-a", ".", ".a", "a b", "a=b", "a,b", "a/b", "a\tb", "a\x00", "\xff", "\u00e4", "a\n", "\n", strings.Repeat("x", 33), strings.Repeat("x", 400), "\"a\"", "a "}
	numbers := []string{"", "-1", "+1", "01", "00", "1.0", "1e1", "0x1", "1_0", " 1", "1 ", "1\t", "1\n", "\u0661", "a", "1a", "1KB", "1KiB", "1,2", "1=1", "4294967297", "9223372036854775808", "18446744073709551617", "1099511627776", "1099511627777", "9999999999999", "10000000000000", strings.Repeat("9", 400), strings.Repeat("0", 400)}
	l := []string{
		"", " ", "=", "\n", "\n\n", "\x00", "\xff", "x", "n", "n=1", "job=1", "0", "1", " tick n=1", "\ttick n=1", "\ntick n=1", "\ufefftick n=1",
		"tick", "tick ", "tick  ", "tick n", "tick n=", "tick =1", "tick n =1", "tick n= 1", "tick  n=1", "tick n=1 ", "tick n=1  ", "tick n=1 n=1", "tick n=1 n=2", "tick n=1 job=1", "tick job=1", "tick job=1 n=1", "tick N=1", "Tick n=1", "TICK n=1", "ticks n=1", "tic n=1", "tickn=1", "tick\tn=1", "tick=n=1", "tick,n=1", "tick n:1", "tick n=1\n", "tick n=1\r", "tick n=1\r\n", "tick n=1\n" + short, "tick n=1\ntick n=1", "tick\nn=1", "tick\n" + short, "tick n=1;", "tick n=1 #", "tick tick n=1", "tick 1", "tick n=1x", "tick nn=1", "tick n=0", "tick n=1001",
		"cancel", "cancel n=1", "cancel job", "cancel job=0", "cancel job=1073741825", "cancel job=1 n=1", "cancel job=1 job=1", "cancel jobs=1", "cancel job=1\n" + short, "hold", "hold job=0", "hold job=1073741825", "hold n=1", "release", "release job=0", "release job=1073741825", "release n=1",
		"status", "status job=0", "status job=1073741825", "status n=1", "status pool=p", "fault", "fault job=0", "fault job=1073741825", "fault n=1",
		"qos", "qos job=1", "qos n=1", "qos n=1 job=1", "qos job=1 n=10", "qos job=0 n=1", "qos job=1073741825 n=1", "qos job=1 n=-1", "qos job=1 n=1 n=1", "qos job=1 job=1 n=1", "qos job=1 job=1", "qos job=1 n", "qos job=1 n=", "qos job=1  n=1", "qos job=1 n=1 ", "qos job=1 qos=1", "qos job=1 result=ok", "qos job=1n=1",
		"end", "end job=1", "end result=ok", "end result=ok job=1", "end job=1 result=maybe", "end job=3 result=maybe", "end job=1 result", "end job=1 result=", "end job=1 result=OK", "end job=1 result=Ok", "end job=1 result=okay", "end job=1 result=o", "end job=1 result=bad ", "end job=1 result=ba", "end job=1 result=okbad", "end job=1 result=public", "end job=1 result=yes", "end job=1 result=1", "end job=0 result=ok", "end job=1073741825 result=bad", "end job=1 result=ok result=ok", "end job=1 n=1", "end job=1 access=public",
		"fail", "fail n=64", "fail n=-1", "fail job=1", "fail node=1", "up", "up n=64", "up job=1", "drain", "drain n=64", "drain pool=p", "resume", "resume n=64", "resume job=1",
		"close", "close pool", "close pool=", "close name=p", "close pool=p pool=p", "close pool=p ", "open", "open pool=", "open n=1", "pool", "pool pool", "pool pool=", "pool pool=p\n", "pool name=p", "pool p", "pool=p", "pool pool=p pool=q",
		"drop", "drop user=a", "drop name=b", "drop name=b user=a", "drop user=a user=a", "drop name=b name=b", "drop user=a name=b user=a", "drop user=a name=b name=b", "drop user=a name=b pool=p", "drop user=a  name=b", "drop user=a name=b ", "drop user= name=b", "drop user=a name=", "drop user=a name",
		"make", "make user=a name=b capacity=1 pool=p", "make user=a name=b capacity=0 pool=p access=public", "make name=b user=a capacity=1 pool=p access=public", "make user=a name=b pool=p capacity=1 access=public", "make user=a name=b capacity=1 access=public pool=p", "make user=a name=b capacity=1 pool=p access", "make user=a name=b capacity=1 pool=p access=", "make user=a name=b capacity=1 pool=p access=Public", "make user=a name=b capacity=1 pool=p access=publi", "make user=a name=b capacity=1 pool=p access=ok", "make user=a name=b capacity=1 pool=p access=bad", "make user=a name=b capacity=1 pool=p access=yes", "make user=a name=b capacity=1 pool=p access=public ", "make user=a name=b capacity=1 pool=p access=public access=public", "make user=a name=b size=1 pool=p access=public",
		"submit", "submit ", "submit n=1", "submit job user=a nodes=1 wall=2", "submit " + short + "\n", "submit \n" + short, " submit\n" + short, "Submit\n" + short, "submits\n" + short, "submit\r\n" + short, "submit\t\n" + short, "submit=\n" + short, "\nsubmit\n" + short, "submit\r" + short, short, short + "\n", "submit submit\n" + short, "submit user=a nodes=1 wall=2", "submi\nt" + short, "submit\\n" + short,
		"nothing job=1", "nothing", "destroy user=a name=b", "create user=a name=b capacity=1 pool=p access=public", "jobs job=1", "show pool=p", "qos=1 job=1", "quality job=1 n=1", "crash 0", "tear tick n=2", "down n=1",
	}
	for _, v := range names {
		l = append(l, "close pool="+v, "open pool="+v, "pool pool="+v, "drop user="+v+" name=b", "drop user=a name="+v, "make user="+v+" name=b capacity=1 pool=p access=public", "make user=a name="+v+" capacity=1 pool=p access=public", "make user=a name=b capacity=1 pool="+v+" access=public")
	}
	for _, v := range numbers {
		l = append(l, "tick n="+v, "qos job="+v+" n=1", "qos job=1 n="+v, "end job="+v+" result=ok")
		for _, word := range []string{"cancel", "hold", "release", "status", "fault"} {
			l = append(l, word+" job="+v)
		}
		for _, word := range []string{"fail", "up", "drain", "resume"} {
			l = append(l, word+" n="+v)
		}
	}
	for _, s := range l {
		o, f := order.Parse(s)
		if f != (api.Spot{E: wrong, Line: 1}) || !reflect.DeepEqual(o, api.Order{}) {
			t.Errorf("Parse(%.600q) is %v, %v", s, o, f)
		}
		holdText(t, s)
	}
}

// TestSubmit has slips that are not valid, each with its own error, at its line plus 1.
func TestSubmit(t *testing.T) { // P16.1
	line := "#BB stage_in size=1"
	full := short + "\n" + strings.Repeat("x", bytes-len(short)-1)
	for _, c := range []struct {
		s string
		f api.Spot
	}{
		{"", api.Spot{E: badslip, Line: 2}},
		{"\n", api.Spot{E: badslip, Line: 2}},
		{"\n" + short, api.Spot{E: badslip, Line: 2}},
		{"job user=a", api.Spot{E: badslip, Line: 2}},
		{"submit\n" + short, api.Spot{E: badslip, Line: 2}},
		{"tick n=1", api.Spot{E: badslip, Line: 2}},
		{short + " ", api.Spot{E: badslip, Line: 2}},
		{short + "\n" + line, api.Spot{E: badslip, Line: 3}},
		{short + "\n" + line + "\n", api.Spot{E: badslip, Line: 4}},
		{short + "\n\n\n" + line + "\n" + line + "\nx", api.Spot{E: badslip, Line: 6}},
		{short + "\n#BB", api.Spot{E: api.ErrDirect, Line: 3}},
		{short + "\nx\n#BB jobdw capacity=0 pool=p\n", api.Spot{E: api.ErrDirect, Line: 4}},
		{short + "\nx\n#BB " + strings.Repeat("x", 500), api.Spot{E: api.ErrLong, Line: 4}},
		{"job user=- nodes=1 wall=2\n\n", api.Spot{E: badslip, Line: 4}},
		{short + "\n" + strings.Repeat("\n", bytes-len(short)-1-len(line)) + line, api.Spot{E: badslip, Line: bytes - len(short) - len(line) + 2}},
		{full + "x", api.Spot{E: api.ErrLong, Line: 1}},
		{strings.Repeat("x", bytes+1), api.Spot{E: api.ErrLong, Line: 1}},
		{strings.Repeat("\n", bytes+1), api.Spot{E: api.ErrLong, Line: 1}},
		{strings.Repeat("x", bytes), api.Spot{E: badslip, Line: 2}},
		{full, api.Spot{}},
		{short, api.Spot{}},
		{short + "\n", api.Spot{}},
		{short + "\nsubmit\n" + short, api.Spot{}},
		{short + "\n#!/bin/sh\n", api.Spot{}},
		{"job wall=2 nodes=1 user=a", api.Spot{}},
		{short + " qos=0", api.Spot{}},
	} {
		o, f := order.Parse("submit\n" + c.s)
		want := api.Order{}
		if c.f == (api.Spot{}) {
			want = api.Order{Kind: api.OrSubmit, Slip: one()}
		}
		if f != c.f || !equal(o, want) {
			t.Errorf("Parse of a submit of %.300q is %v, %v, not %v", c.s, o, f, c.f)
		}
		holdText(t, "submit\n"+c.s)
		if _, f := order.Parse("submit " + c.s); f != (api.Spot{E: wrong, Line: 1}) {
			t.Errorf("Parse of a submit with a space and %.300q is %v", c.s, f)
		}
	}
}

// put calls do with each row of at most n elements of l, each after a space, behind s.
func put(s string, l []string, n int, do func(string)) {
	do(s)
	if n > 0 {
		for _, x := range l {
			put(s+" "+x, l, n-1, do)
		}
	}
}

// words has all words, and some that are none.
var words = []string{"tick", "submit", "cancel", "hold", "release", "qos", "end", "fault", "fail", "up", "drain", "resume", "close", "open", "make", "drop", "status", "pool", "", "job", "Make"}

// TestRows has all rows of up to three of a dozen fields, behind each word.
func TestRows(t *testing.T) { // P16.1, P16.3
	l := []string{"n=1", "n=0", "n=63", "n=100", "job=1", "job=0", "result=ok", "result=bad", "pool=p", "pool=", "user=a", "name=b", "capacity=1", "capacity=1KiB", "access=public", "access=ok", "n", ""}
	for _, word := range words {
		put(word, l, 3, func(s string) { holdText(t, s) })
	}
}

// TestMake has all rows of up to six fields of a make, behind it and a drop.
func TestMake(t *testing.T) { // P16.1, P16.3
	l := []string{"user=a", "name=b", "capacity=2", "pool=p", "access=private", "access=public", "x"}
	for _, word := range []string{"make", "drop"} {
		put(word, l, 6, func(s string) { holdText(t, s) })
	}
}

// TestNumbers has each number around the bounds, behind each field that is one.
func TestNumbers(t *testing.T) { // P16.1, P16.2, P16.3
	var l []int64
	for n := range int64(1100) {
		l = append(l, n)
	}
	for _, n := range []int64{job, top, 1 << 20, 1 << 31, 1 << 32, 1 << 62} {
		l = append(l, n-2, n-1, n, n+1, n+2)
	}
	for kind, before := range []string{tick: "tick n=", fail: "fail n=", up: "up n=", drain: "drain n=", resume: "resume n=", quality: "qos job=2 n=", cancel: "cancel job=", hold: "hold job=", release: "release job=", status: "status job=", fault: "fault job="} {
		if before == "" {
			continue
		}
		for _, n := range l {
			holdText(t, before+strconv.FormatInt(n, 10))
			o := api.Order{Kind: uint8(kind), N: n}
			switch {
			case kind == quality:
				o.Job = 2
			case strings.HasSuffix(before, "job="):
				o.N, o.Job = 0, n
			}
			holdOrder(t, o)
			o.N, o.Job = -o.N, -o.Job
			holdOrder(t, o)
		}
	}
	for _, n := range l {
		s := strconv.FormatInt(n, 10)
		holdText(t, "qos job="+s+" n=3")
		holdText(t, "end job="+s+" result=ok")
		holdText(t, "end job="+s+" result=bad")
		holdText(t, "make user=a name=b capacity="+s+" pool=p access=public")
		holdOrder(t, api.Order{Kind: create, User: "a", Name: "b", Pool: "p", Size: n})
		holdOrder(t, api.Order{Kind: create, User: "a", Name: "b", Pool: "p", Size: -n})
	}
}

// TestBytes puts each byte at each place of valid texts, in place of what is there and in front of it, and leaves out, doubles and turns pieces of them.
func TestBytes(t *testing.T) { // P16.1, P16.3
	for _, s := range each {
		for i := range len(s) + 1 {
			for b := range 256 {
				x := string([]byte{byte(b)})
				holdText(t, s[:i]+x+s[i:])
				if i < len(s) {
					holdText(t, s[:i]+x+s[i+1:])
				}
			}
			for j := i + 1; j <= len(s); j++ {
				holdText(t, s[:i]+s[j:])
				holdText(t, s[:j]+s[i:])
				holdText(t, s[i:j])
				holdText(t, s[i:]+s[:i])
			}
		}
	}
}

// TestCross puts the beginning of each valid text in front of the end of each other one.
func TestCross(t *testing.T) { // P16.1, P16.3
	for _, a := range each {
		for _, b := range each {
			for i := range len(a) + 1 {
				for j := range len(b) + 1 {
					holdText(t, a[:i]+b[j:])
				}
			}
		}
	}
}

// TestCheck has orders of all kinds, and of no kind, with all of a few values of all else.
func TestCheck(t *testing.T) { // P16.2, P16.3
	kinds := []uint8{0, 1, 2, 3, 4, 5, 6, 7, 8, 9, 10, 11, 12, 13, 14, 15, 16, 17, 18, 19, 20, 146, 255}
	names := []string{"", "a", "-"}
	for _, kind := range kinds {
		for _, j := range []int64{0, 1, job, job + 1} {
			for _, n := range []int64{-1, 0, 1, 10, 64, 1001} {
				for _, name := range names {
					for _, pool := range names {
						for _, user := range names {
							for _, size := range []int64{0, 1, top + 1} {
								for _, yes := range []bool{false, true} {
									o := api.Order{Kind: kind, Job: j, N: n, Name: name, Pool: pool, User: user, Size: size, Yes: yes}
									holdOrder(t, o)
									if size == 0 && pool == "" { // a slip needs time
										o.Slip = one()
										holdOrder(t, o)
										o.Slip = api.Slip{User: "a"}
										holdOrder(t, o)
									}
								}
							}
						}
					}
				}
			}
		}
	}
}

// TestEdges has what a kind has at its edges, and all else zero, or one thing more.
func TestEdges(t *testing.T) { // P16.2, P16.3
	all, _ := slips()
	numbers := []int64{math.MinInt64, -top, -1, 0, 1, 8, 9, 10, 62, 63, 64, 65, 255, 256, 999, 1000, 1001, 1 << 20, job - 1, job, job + 1, 1<<32 + 1, top - 1, top, top + 1, math.MaxInt64}
	names := []string{"", "a", "Zz9_.-", "-", ".", "a b", "a=b", " ", "\n", "a\n", "a\x00", "\xff", strings.Repeat("x", 32), strings.Repeat("x", 33), "a pool=p", "b access=public", "a name=b"}
	sets := []func(o *api.Order, do func()){
		func(o *api.Order, do func()) {
			for _, o.Job = range numbers {
				do()
			}
		},
		func(o *api.Order, do func()) {
			for _, o.N = range numbers {
				do()
			}
		},
		func(o *api.Order, do func()) {
			for _, o.Size = range numbers {
				do()
			}
		},
		func(o *api.Order, do func()) {
			for _, o.Name = range names {
				do()
			}
		},
		func(o *api.Order, do func()) {
			for _, o.Pool = range names {
				do()
			}
		},
		func(o *api.Order, do func()) {
			for _, o.User = range names {
				do()
			}
		},
		func(o *api.Order, do func()) {
			for _, o.Yes = range []bool{false, true} {
				do()
			}
		},
		func(o *api.Order, do func()) {
			for _, o.Slip = range []api.Slip{{}, one(), all, {User: "a"}, {Nodes: 1}, {After: []api.Dep{}}, {After: []api.Dep{{}}}, {Make: []api.Direct{}, Drop: []string{}, Use: []string{}}, {Drop: []string{""}}, {Cap: 1, Pool: "p"}, {User: "a", Nodes: 65, Wall: 2}} {
				do()
			}
		},
	}
	good := []api.Order{{}, {Kind: 19}, {Kind: 255}}
	for _, s := range each {
		o, _ := parse(s)
		good = append(good, o, api.Order{Kind: o.Kind})
	}
	for _, g := range good {
		for i, set := range sets {
			o := copied(g)
			set(&o, func() {
				holdOrder(t, o)
				for _, other := range sets[:i] {
					x := copied(o)
					other(&x, func() { holdOrder(t, x) })
				}
			})
		}
	}
}

// TestEmpty has lists of a slip that are empty, in place of nil ones.
func TestEmpty(t *testing.T) { // P16.2
	empty := api.Slip{After: []api.Dep{}, Make: []api.Direct{}, Drop: []string{}, Use: []string{}}
	for _, s := range each {
		a, _ := parse(s)
		b := a
		if a.Kind == submit {
			b.Slip = api.Slip{User: "a", Nodes: 1, Wall: 2, After: []api.Dep{}, Make: []api.Direct{}, Drop: []string{}, Use: []string{}}
		} else {
			b.Slip = empty
		}
		if line, e := order.Text(b); !order.Same(a, b) || !order.Same(b, a) || order.Check(b) != api.OK || line != s || e != api.OK {
			t.Errorf("of %v with empty lists Text is %q, %d", b, line, e)
		}
	}
}

func TestSame(t *testing.T) { // P16.2
	all, _ := slips()
	o := api.Order{Kind: 3, Job: 4, N: 5, Name: "a", Pool: "b", User: "c", Size: 6, Yes: true, Slip: all}
	differ := map[string]func(x *api.Order){
		"Kind":          func(x *api.Order) { x.Kind++ },
		"no Kind":       func(x *api.Order) { x.Kind = 0 },
		"Job":           func(x *api.Order) { x.Job++ },
		"no Job":        func(x *api.Order) { x.Job = 0 },
		"N":             func(x *api.Order) { x.N++ },
		"N below 0":     func(x *api.Order) { x.N = -x.N },
		"Name":          func(x *api.Order) { x.Name += "x" },
		"no Name":       func(x *api.Order) { x.Name = "" },
		"Pool":          func(x *api.Order) { x.Pool = "B" },
		"no Pool":       func(x *api.Order) { x.Pool = "" },
		"User":          func(x *api.Order) { x.User += "\x00" },
		"no User":       func(x *api.Order) { x.User = "" },
		"Size":          func(x *api.Order) { x.Size += 1 << 32 },
		"no Size":       func(x *api.Order) { x.Size = 0 },
		"Yes":           func(x *api.Order) { x.Yes = false },
		"Name, Pool":    func(x *api.Order) { x.Name, x.Pool = x.Pool, x.Name },
		"Name, User":    func(x *api.Order) { x.Name, x.User = x.User, x.Name },
		"Pool, User":    func(x *api.Order) { x.Pool, x.User = x.User, x.Pool },
		"Job, N":        func(x *api.Order) { x.Job, x.N = x.N, x.Job },
		"Size, N":       func(x *api.Order) { x.Size, x.N = x.N, x.Size },
		"Job, Size":     func(x *api.Order) { x.Job, x.Size = x.Size, x.Job },
		"a slip's User": func(x *api.Order) { x.Slip.User = "bob" },
		"a slip's Qos":  func(x *api.Order) { x.Slip.Qos = 0 },
		"a slip's Dep":  func(x *api.Order) { x.Slip.After[1].Any = false },
		"a Dep less":    func(x *api.Order) { x.Slip.After = x.Slip.After[:1] },
		"a Make":        func(x *api.Order) { x.Slip.Make[1].Open = true },
		"a Drop more":   func(x *api.Order) { x.Slip.Drop = append(x.Slip.Drop, "") },
		"Uses turned":   func(x *api.Order) { slices.Reverse(x.Slip.Use) },
		"no slip":       func(x *api.Order) { x.Slip = api.Slip{} },
		"nothing":       func(x *api.Order) { *x = api.Order{} },
	}
	for what, change := range differ {
		x := copied(o)
		if !order.Same(o, x) || !order.Same(x, o) {
			t.Errorf("%v is not the same as its copy", o)
		}
		change(&x)
		if order.Same(o, x) || order.Same(x, o) || !order.Same(x, copied(x)) {
			t.Errorf("with another %s Same of %v is wrong", what, x)
		}
	}
	for _, x := range []api.Order{{Kind: 1}, {Job: 1}, {N: 1}, {Name: "a"}, {Pool: "a"}, {User: "a"}, {Size: 1}, {Yes: true}, {Slip: api.Slip{In: 1}}, {Slip: api.Slip{Use: []string{""}}}} {
		if order.Same(x, api.Order{}) || order.Same(api.Order{}, x) || !order.Same(x, copied(x)) {
			t.Errorf("Same of %v is wrong", x)
		}
	}
	if !order.Same(api.Order{}, api.Order{}) {
		t.Error("nothing is not the same as nothing")
	}
}

// spare returns l with room behind it, in which there is x.
func spare[T any](l []T, x T) []T {
	return append(append(make([]T, 0, len(l)+4), l...), x, x, x, x)[:len(l)]
}

// TestMemory changes results, and looks behind arguments.
func TestMemory(t *testing.T) { // R5
	all, s := slips()
	want, s := api.Order{Kind: submit, Slip: all}, "submit\n"+s
	o, _ := order.Parse(s)
	other, _ := order.Parse(s)
	x := &o.Slip
	for i := range cap(x.After) {
		x.After[:cap(x.After)][i] = api.Dep{Job: 9}
	}
	for i := range cap(x.Make) {
		x.Make[:cap(x.Make)][i] = api.Direct{Name: "changed"}
	}
	for i := range cap(x.Drop) {
		x.Drop[:cap(x.Drop)][i] = "changed"
	}
	for i := range cap(x.Use) {
		x.Use[:cap(x.Use)][i] = "other"
	}
	if again, f := order.Parse(s); !equal(other, want) || !equal(again, want) || f != (api.Spot{}) || x.Drop[0] != "changed" {
		t.Errorf("Parse is %v, then %v, %v", other, again, f)
	}
	o = copied(want)
	x = &o.Slip
	x.After, x.Make, x.Drop, x.Use = spare(x.After, api.Dep{Job: 77}), spare(x.Make, api.Direct{Name: "behind"}), spare(x.Drop, "behind"), spare(x.Use, "behind")
	order.Check(o)
	order.Text(o)
	order.Same(o, o)
	for i := range 4 {
		if x.After[:cap(x.After)][len(x.After)+i].Job != 77 || x.Make[:cap(x.Make)][len(x.Make)+i].Name != "behind" || x.Drop[:cap(x.Drop)][len(x.Drop)+i] != "behind" || x.Use[:cap(x.Use)][len(x.Use)+i] != "behind" {
			t.Errorf("what is behind an argument has changed: %v", o)
		}
	}
	if !equal(o, want) {
		t.Errorf("%v has become %v", want, o)
	}
}

// TestHuge has texts, names and lists that are much longer than valid ones.
func TestHuge(t *testing.T) { // P1, P16.1, P16.2
	const n = 1 << 22
	huge := strings.Repeat("x", n)
	for _, s := range []string{
		huge, strings.Repeat(" ", n), strings.Repeat("=", n), strings.Repeat("n=1 ", n), "tick " + strings.Repeat("n=1 ", n), "tick " + strings.Repeat(" ", n), "tick n=" + strings.Repeat("0", n), "tick n=" + strings.Repeat("1", n), "tick n=1" + strings.Repeat(" ", n), "tick n=1" + strings.Repeat("\n", n),
		"close pool=" + huge, "drop user=a name=" + huge, "drop user=" + huge + " name=b", "make user=a name=b capacity=" + strings.Repeat("9", n) + " pool=p access=public", "make user=a name=b capacity=1 pool=p access=" + huge, "end job=1 result=" + huge, huge + "=1", "tick " + huge + "=1", "submit" + huge, "submit " + huge, strings.Repeat("submit", n), strings.Repeat("\n", n),
	} {
		if o, f := order.Parse(s); f != (api.Spot{E: wrong, Line: 1}) || !reflect.DeepEqual(o, api.Order{}) {
			t.Errorf("Parse of the huge %.50q is %.100v, %v", s, o, f)
		}
	}
	for _, s := range []string{huge, strings.Repeat("\n", n), short + "\n" + huge, short + strings.Repeat("\n", n), short + strings.Repeat(" ", n)} {
		if o, f := order.Parse("submit\n" + s); f != (api.Spot{E: api.ErrLong, Line: 1}) || !reflect.DeepEqual(o, api.Order{}) {
			t.Errorf("Parse of a submit of the huge %.50q is %.100v, %v", s, o, f)
		}
	}
	deps, names := make([]api.Dep, n), make([]string, n)
	for i := range n {
		deps[i], names[i] = api.Dep{Job: int64(i + 1)}, "u"+strconv.Itoa(i)
	}
	for _, o := range []api.Order{
		{Kind: create, User: huge, Name: "a", Size: 1, Pool: "p"}, {Kind: create, User: "a", Name: huge, Size: 1, Pool: "p"}, {Kind: create, User: "a", Name: "b", Size: 1, Pool: huge}, {Kind: drop, User: huge, Name: huge}, {Kind: show, Pool: huge}, {Kind: tick, N: 1, Name: huge},
		{Kind: submit, Slip: api.Slip{User: "a", Nodes: 1, Wall: 2, After: deps}}, {Kind: submit, Slip: api.Slip{User: "a", Nodes: 1, Wall: 2, Use: names}}, {Kind: submit, Slip: api.Slip{User: huge, Nodes: 1, Wall: 2}}, {Kind: tick, N: 1, Slip: api.Slip{Drop: names}}, {Kind: 99, Name: huge},
	} {
		x := o
		x.Job++
		if s, e := order.Text(o); order.Check(o) != wrong || s != "" || e != wrong || !order.Same(o, o) || order.Same(o, x) {
			t.Errorf("Text of a huge order is %.100q, %d", s, e)
		}
	}
}

// TestAgain calls each twice, with errors between: nothing is kept.
func TestAgain(t *testing.T) { // R4
	for range 3 {
		for _, s := range each {
			for _, bad := range []string{"", s + " ", s + "=", "submit\n" + s, "make user=a name=b capacity=5 pool=p access=x"} {
				if o, f := order.Parse(bad); f == (api.Spot{}) || !reflect.DeepEqual(o, api.Order{}) {
					t.Errorf("Parse(%.600q) is %v, %v", bad, o, f)
				}
				want, _ := parse(s)
				o, f := order.Parse(s)
				line, e := order.Text(o)
				if !equal(o, want) || f != (api.Spot{}) || line != s || e != api.OK {
					t.Errorf("Parse is %v, %v, Text %q, %d", o, f, line, e)
				}
			}
		}
	}
}

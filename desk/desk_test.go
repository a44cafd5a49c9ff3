package desk_test

import (
	"fmt"
	"math"
	"testing"

	"gleaning/api"
	"gleaning/batch"
	"gleaning/desk"
	"gleaning/path"
	"gleaning/quant"
	"gleaning/query"
	"gleaning/sample"
	"gleaning/search"
	"gleaning/state"
	"gleaning/tree"
)

// config is one that closes traces after a tick.
func config() api.Config {
	return api.Config{Idle: 1, Age: 5, Most: 50, Memo: 4, Cap: 100, Keep: 100, Budget: 1 << 20, Horizon: [3]int{1 << 30, 1 << 30, 1 << 30}}
}

// work is a span of trace 1.
func work(id, parent uint64, service string, start, dur int) api.Span {
	return api.Span{Trace: api.Trace{Lo: 1}, Id: id, Parent: parent, Service: service, Op: "o", Start: start, Dur: dur, Attrs: []api.Attr{{Key: "k", Value: service}}}
}

// call is a trace: 1 calls 3 and 2, 3 calls 4.
func call() []api.Span {
	return []api.Span{work(1, 0, "a", 5, 4000), work(2, 1, "b", 7, 100), work(3, 1, "c", 6, 2000), work(4, 3, "b", 6, 600)}
}

var first = api.Trace{Lo: 1}

// open is a desk of a new store.
func open(t *testing.T) *desk.Desk {
	t.Helper()
	d, err := desk.Open(config(), 1<<20)
	if err != api.OK {
		t.Fatalf("Open: %d", err)
	}
	return d
}

// do asks for replies of no error.
func do(t *testing.T, d *desk.Desk, l ...api.Event) {
	t.Helper()
	for i, e := range l {
		if r := d.Do(e); r.Err != api.OK {
			t.Fatalf("event %d: %d", i, r.Err)
		}
	}
}

// full is a desk of a store that has the trace.
func full(t *testing.T) *desk.Desk {
	t.Helper()
	d := open(t)
	do(t, d, api.Event{Kind: api.EIngest, Data: batch.Bytes(call())}, api.Event{Kind: api.ETick, N: 10})
	return d
}

// same holds a thing against another one.
func same(t *testing.T, what string, got, want any) {
	t.Helper()
	if g, w := fmt.Sprint(got), fmt.Sprint(want); g != w {
		t.Errorf("%s: %s, not %s", what, g, w)
	}
}

// told is what a call answers.
func told(l ...any) []any {
	return l
}

func TestOpenP3301(t *testing.T) {
	for i, x := range []struct {
		c    api.Config
		room int
		want api.Errno
	}{{config(), 0, api.OK}, {config(), -1, api.ErrArg}, {api.Config{}, 5, api.ErrArg}} {
		d, err := desk.Open(x.c, x.room)
		if err != x.want || (d != nil) != (err == api.OK) {
			t.Errorf("%d: %v %d", i, d, err)
		}
	}
	d := open(t)
	same(t, "search", told(d.Search(api.Query{}, 9)), told([]api.Trace{}, api.OK))
	if s, ok := d.State(); !ok || s.Policy.Kind != api.RAll {
		t.Error("the store's own calls")
	}
}

func TestPolicyP3301(t *testing.T) {
	d := open(t)
	same(t, "one", told(d.Policy(`any(err, slow 100, attr "k" "v")`)), told(-1, api.OK))
	want := api.Rule{Kind: api.RAny, Kids: []api.Rule{{Kind: api.RErr}, {Kind: api.RSlow, N: 100}, {Kind: api.RAttr, Key: "k", Value: "v"}}}
	s, _ := d.State()
	same(t, "the state's policy", s.Policy, want)
	for text, x := range map[string][]any{
		"":                                  told(0, api.ErrBytes),
		"any(err,":                          told(8, api.ErrBytes),
		"all() x":                           told(6, api.ErrBytes),
		"many 1001":                         told(0, api.ErrArg),
		"slow 00001":                        told(5, api.ErrBytes),
		string(make([]byte, api.MaxText+1)): told(0, api.ErrArg),
	} {
		same(t, text, told(d.Policy(text)), x)
	}
	s, _ = d.State()
	same(t, "as it was", s.Policy, want)
	small, _ := desk.Open(config(), 5)
	same(t, "no room", told(small.Policy("err")), told(-1, api.ErrFull))
	do(t, d, api.Event{Kind: api.EFuse})
	same(t, "dead", told(d.Policy("err")), told(-1, api.ErrDown))
	same(t, "down", told(d.Policy("#")), told(-1, api.ErrDown))
}

func TestTreeP3301(t *testing.T) {
	d := full(t)
	l := call()
	spans, depths, err := d.Tree(first)
	same(t, "spans", spans, []api.Span{l[0], l[2], l[3], l[1]})
	same(t, "depths", told(depths, err), told([]int{0, 1, 2, 1}, api.OK))
	spans, depths, err = d.Tree(api.Trace{Lo: 2})
	same(t, "no such trace", told(spans, depths, err), told([]api.Span{}, []int{}, api.ErrNone))
}

func TestPathP3301(t *testing.T) {
	d := full(t)
	l := call()
	same(t, "spans", told(d.Path(first)), told([]api.Span{l[0], l[2], l[3]}, api.OK))
	same(t, "no such trace", told(d.Path(api.Trace{Hi: 1, Lo: 1})), told([]api.Span{}, api.ErrNone))
}

func TestQuantileP3301(t *testing.T) {
	d := full(t)
	do(t, d, api.Event{Kind: api.EIngest, Data: batch.Bytes([]api.Span{work(9, 0, "b", 100, 7), work(8, 0, "b", 200, 0)})})
	for _, x := range []struct{ level, p, want int }{{0, 0, 0}, {0, 250, 0}, {0, 251, 5}, {0, 500, 5}, {0, 501, 100}, {0, 750, 100}, {0, 751, 500}, {0, 1000, 500}, {1, 500, 5}, {2, 501, 100}} {
		same(t, fmt.Sprint(x), told(d.Quantile("b", "o", x.level, x.p)), told(x.want, api.OK))
	}
	for _, x := range [][2]int{{0, -1}, {0, 1001}, {-1, 500}, {3, 500}, {math.MaxInt, math.MinInt}} {
		same(t, fmt.Sprint(x), told(d.Quantile("b", "o", x[0], x[1])), told(0, api.ErrNone))
	}
	same(t, "no such one", told(d.Quantile("b", "p", 0, 500)), told(0, api.ErrNone))
}

func TestQuantileHasNoMostP3301(t *testing.T) {
	c := config()
	c.Cap = 2
	d, _ := desk.Open(c, 1<<20)
	for i := range 5 {
		do(t, d, api.Event{Kind: api.EIngest, Data: batch.Bytes([]api.Span{work(uint64(i), 0, "b", 60*i, i/4*7)})})
	}
	same(t, "four of five", told(d.Quantile("b", "o", 0, 800)), told(0, api.OK))
	same(t, "five of five", told(d.Quantile("b", "o", 0, 801)), told(5, api.OK))
}

func TestBusyP3301(t *testing.T) {
	d := full(t)
	same(t, "all", told(d.Busy(0, 9)), told([]api.Busy{{Service: "b", Op: "o", Count: 2}, {Service: "a", Op: "o", Count: 1}, {Service: "c", Op: "o", Count: 1}}, api.OK))
	same(t, "one", told(d.Busy(1, 1)), told([]api.Busy{{Service: "b", Op: "o", Count: 2}}, api.OK))
	same(t, "none", told(d.Busy(1, -1)), told([]api.Busy{}, api.OK))
	same(t, "no level", told(d.Busy(3, 9)), told([]api.Busy{}, api.OK))
}

func TestSearchP3301(t *testing.T) {
	d := full(t)
	same(t, "one", told(d.Search(api.Query{Service: "b", Dur: 600}, 9)), told([]api.Trace{first}, api.OK))
	same(t, "none", told(d.Search(api.Query{Service: "b", Dur: 601}, 9)), told([]api.Trace{}, api.OK))
	same(t, "the first none", told(d.Search(api.Query{}, 0)), told([]api.Trace{}, api.OK))
	do(t, d, api.Event{Kind: api.EIngest, Data: batch.Bytes([]api.Span{{Trace: api.Trace{Lo: 7}, Service: "z", Op: "o"}})})
	same(t, "those that are open are not found", told(d.Search(api.Query{Service: "z"}, 9)), told([]api.Trace{}, api.OK))
}

func TestDeskSaysWhatTheStoreHasP3301(t *testing.T) {
	c := sample.Chance(33)
	d, _ := desk.Open(config(), 1<<20)
	for range 150 {
		switch c.Next(5) {
		case 0:
			d.Do(api.Event{Kind: api.ETick, N: c.Next(9000)})
		case 1:
			d.Do(api.Event{Kind: api.ECompact})
		default:
			d.Do(api.Event{Kind: api.EIngest, Data: batch.Bytes(c.Spans(1+c.Next(5), 6))})
		}
		s, _ := d.State()
		q := api.Query{Service: c.Name('s')}
		same(t, "search", told(d.Search(q, 3)), told(search.Find(s.Blocks, q, 3), api.OK))
		same(t, "busy", told(d.Busy(1, 3)), told(quant.Busy(s.Rows, 1, 3), api.OK))
		trace := c.Trace(6)
		l, err := query.Get(s, trace)
		spans, depths, got := d.Tree(trace)
		way, got2 := d.Path(trace)
		if got != err || got2 != err || len(spans) != len(l) || len(depths) != len(l) || len(way) != len(path.Critical(l)) {
			t.Fatalf("%v: %v %v %d", trace, spans, depths, got)
		}
		for at, i := range tree.Order(l) {
			same(t, "a span", spans[at], l[i])
			same(t, "its depth", depths[at], tree.Depths(l)[i])
		}
		for at, i := range path.Critical(l) {
			same(t, "a span of the path", way[at], l[i])
		}
	}
}

// refused asks for ErrDown of all calls.
func refused(t *testing.T, what string, d *desk.Desk) {
	t.Helper()
	spans, depths, err := d.Tree(first)
	same(t, what, told(spans, depths, err), told([]api.Span{}, []int{}, api.ErrDown))
	same(t, what, told(d.Path(first)), told([]api.Span{}, api.ErrDown))
	same(t, what, told(d.Quantile("b", "o", 0, 500)), told(0, api.ErrDown))
	same(t, what, told(d.Busy(0, 9)), told([]api.Busy{}, api.ErrDown))
	same(t, what, told(d.Search(api.Query{}, 9)), told([]api.Trace{}, api.ErrDown))
	for _, text := range []string{"err", "#", "many 1001"} {
		same(t, what, told(d.Policy(text)), told(-1, api.ErrDown))
	}
}

func TestDownP3301(t *testing.T) {
	d := full(t)
	do(t, d, api.Event{Kind: api.ECrash})
	refused(t, "the store is down", d)
	do(t, d, api.Event{Kind: api.ERecover})
	same(t, "back", told(d.Search(api.Query{}, 9)), told([]api.Trace{first}, api.OK))
	do(t, d, api.Event{Kind: api.EFuse})
	d.Do(api.Event{Kind: api.ETick})
	refused(t, "its keeper is down", d)
}

func TestNilP3302(t *testing.T) {
	refused(t, "a nil one", nil)
	refused(t, "a zero one", new(desk.Desk))
}

func TestTwoHaveNothingInCommonP3302(t *testing.T) {
	one, two := full(t), full(t)
	before, _ := one.State()
	spans, _, _ := one.Tree(first)
	for i := range spans {
		clear(spans[i].Attrs)
	}
	way, _ := one.Path(first)
	clear(way)
	busy, _ := one.Busy(0, 9)
	clear(busy)
	found, _ := one.Search(api.Query{}, 9)
	clear(found)
	do(t, one, api.Event{Kind: api.ECrash})
	do(t, two, api.Event{Kind: api.ETick})
	do(t, one, api.Event{Kind: api.ERecover})
	if after, ok := one.State(); !ok || !state.Same(after, before) {
		t.Errorf("%v, not %v", after, before)
	}
}

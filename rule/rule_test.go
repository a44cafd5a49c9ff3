package rule_test

import (
	"bytes"
	"fmt"
	"math"
	"strings"
	"testing"

	"gleaning/api"
	"gleaning/ints"
	"gleaning/rule"
	"gleaning/sample"
)

var (
	long = strings.Repeat("x", api.MaxName)
	err1 = api.Rule{Kind: api.RErr}
)

// of is a rule of a kind with kids.
func of(kind int, kids ...api.Rule) api.Rule {
	return api.Rule{Kind: kind, Kids: kids}
}

// n is a rule of a kind with a number.
func n(kind, n int) api.Rule {
	return api.Rule{Kind: kind, N: n}
}

// deep is a policy so many levels deep.
func deep(levels int) api.Rule {
	r := err1
	for range levels - 1 {
		r = of(api.RNot, r)
	}
	return r
}

// wide is a policy of so many nodes.
func wide(nodes int) api.Rule {
	r := of(api.RAny)
	for range nodes - 1 {
		r.Kids = append(r.Kids, err1)
	}
	return r
}

// twice is a policy of two times so many nodes, and one more.
func twice(nodes int) api.Rule {
	return of(api.RAll, wide(nodes), wide(nodes))
}

// ring is a policy that holds itself.
func ring(kind int) api.Rule {
	kids := make([]api.Rule, 1)
	kids[0] = api.Rule{Kind: kind, Kids: kids}
	return kids[0]
}

// right are policies that are right, with their bytes.
func right() map[string]api.Rule {
	return map[string]api.Rule{
		"\x06\x01k\x10" + long:                  {Kind: api.RAttr, Key: "k", Value: long},
		"\x01\x00":                              of(api.RAll),
		"\x02\x00":                              of(api.RAny),
		"\x02\x02\x05\x01\x01\x05":              of(api.RAny, err1, of(api.RAll, err1)),
		"\x03\x01\x05":                          of(api.RNot, err1),
		"\x04\x00":                              n(api.RSlow, 0),
		"\x04\x80\x80\x80\x80\x04":              n(api.RSlow, api.MaxDur),
		"\x05":                                  err1,
		"\x06\x01k\x00":                         {Kind: api.RAttr, Key: "k"},
		"\x06\x10" + long + "\x02\x00\xff":      {Kind: api.RAttr, Key: long, Value: "\x00\xff"},
		"\x07\x00":                              n(api.RMany, 0),
		"\x07\xe8\x07":                          n(api.RMany, 1000),
		"\x08\x00":                              n(api.RHash, 0),
		"\x08\xe8\x07":                          n(api.RHash, 1000),
		"\x09\x00":                              n(api.RRate, 0),
		"\x09\xc0\x84\x3d":                      n(api.RRate, 1000000),
		"\x03\x01\x03\x01\x03\x01\x03\x01\x05":  deep(5),
		"\x02\x13" + strings.Repeat("\x05", 19): wide(20),
		"\x01\x02" + strings.Repeat("\x02\x08"+strings.Repeat("\x05", 8), 2): twice(9),
	}
}

// wrong are policies that are not right.
func wrong() []api.Rule {
	out := []api.Rule{
		{}, n(-1, 0), n(10, 0), n(256+api.RErr, 0), n(math.MinInt, 0),
		of(api.RNot), of(api.RNot, err1, err1), of(api.RNot, api.Rule{}), of(api.RAll, err1, n(api.RSlow, -1)),
		n(api.RSlow, -1), n(api.RSlow, api.MaxDur+1), n(api.RMany, -1), n(api.RMany, 1001),
		n(api.RHash, -1), n(api.RHash, 1001), n(api.RRate, -1), n(api.RRate, 1000001), n(api.RRate, math.MinInt),
		{Kind: api.RAttr}, {Kind: api.RAttr, Value: "v"}, {Kind: api.RAttr, Key: long + "x"}, {Kind: api.RAttr, Key: "k", Value: long + "x"},
		deep(6), wide(21), twice(10), of(api.RAny, deep(5)), ring(api.RNot), ring(api.RAll),
		n(api.RErr, 1), n(api.RAll, 1), n(api.RAny, -1), {Kind: api.RNot, N: 1, Kids: []api.Rule{err1}}, {Kind: api.RAttr, N: 1, Key: "k"},
		{Kind: api.RAttr, Key: "k", Kids: []api.Rule{err1}},
	}
	for kind := api.RAll; kind <= api.RRate; kind++ {
		kids := []api.Rule(nil)
		if kind == api.RNot {
			kids = []api.Rule{err1}
		}
		if kind != api.RAttr {
			out = append(out, api.Rule{Kind: kind, Key: "k", Kids: kids}, api.Rule{Kind: kind, Value: "v", Kids: kids})
		}
		if kind > api.RNot {
			out = append(out, of(kind, err1))
		}
	}
	return out
}

func TestRightP1301(t *testing.T) {
	for b, r := range right() {
		if !rule.Right(r) {
			t.Errorf("%q: not right", b)
		}
	}
	for i, r := range wrong() {
		if rule.Right(r) || len(rule.Bytes(r)) != 0 {
			t.Errorf("%d: right", i)
		}
	}
}

func TestBytesP1301(t *testing.T) {
	for want, r := range right() {
		if got := rule.Bytes(r); string(got) != want {
			t.Errorf("%q, not %q", got, want)
		}
		if got, err := rule.Read([]byte(want)); err != api.OK || !rule.Same(got, r) {
			t.Errorf("%q: %v %d", want, got, err)
		}
	}
}

func TestReadOfNoneP1301(t *testing.T) {
	all := []string{
		"", "\x00", "\x0a", "\xff", "\x85\x00", "\x0a\x00", "\x00\x00",
		"\x03\x00", "\x03\x02\x05\x05", "\x01\x02\x05", "\x01\x80\x00", "\x01\x81\x00\x05",
		"\x04\x80\x00", "\x04\x81\x80\x80\x80\x04", "\x07\xe9\x07", "\x08\xe9\x07", "\x09\xc1\x84\x3d",
		"\x06\x00\x00", "\x06\x11" + long + "x\x00", "\x06\x01k\x11" + long + "x", "\x06\x01k",
		"\x03\x01\x03\x01\x03\x01\x03\x01\x03\x01\x05",
		"\x02\x14" + strings.Repeat("\x05", 20),
		"\x04" + string(ints.Put(nil, math.MaxUint64)),
		"\x01" + string(ints.Put(nil, math.MaxUint64)), "\x01" + string(ints.Put(nil, math.MaxInt64)),
		strings.Repeat("\x03\x01", 1<<24),
		strings.Repeat("\x01\x64", 100000),
	}
	for b := range right() {
		all = append(all, b+"\x00", b+b)
		for cut := range len(b) {
			all = append(all, b[:cut])
		}
	}
	for _, b := range all {
		if r, err := rule.Read([]byte(b)); err != api.ErrBytes || !rule.Same(r, api.Rule{}) {
			t.Errorf("%.50q: %v %d", b, r, err)
		}
	}
}

func TestReadIsBytesBackP1301(t *testing.T) {
	c := sample.Chance(13)
	for range 3000 {
		r := c.Rule(4)
		b := rule.Bytes(r)
		if got, err := rule.Read(b); rule.Right(r) && (err != api.OK || !rule.Same(got, r)) {
			t.Fatalf("%v: %v %d", r, got, err)
		}
		if len(b) > 0 {
			b[c.Next(len(b))] = byte(c.Next(12))
		}
		if got, err := rule.Read(b); err == api.OK && !bytes.Equal(rule.Bytes(got), b) {
			t.Fatalf("%v: %v", b, got)
		}
	}
}

func TestSameP1302(t *testing.T) {
	r := of(api.RAny, n(api.RSlow, 5), of(api.RNot, api.Rule{Kind: api.RAttr, Key: "k", Value: "v"}))
	if !rule.Same(r, rule.Copy(r)) || !rule.Same(api.Rule{}, api.Rule{Kids: []api.Rule{}}) {
		t.Error("not the same")
	}
	for i, turn := range []func(r *api.Rule){
		func(r *api.Rule) { r.Kind = api.RAll },
		func(r *api.Rule) { r.N = 1 },
		func(r *api.Rule) { r.Key = "k" },
		func(r *api.Rule) { r.Value = "v" },
		func(r *api.Rule) { r.Kids = nil },
		func(r *api.Rule) { r.Kids = r.Kids[:1] },
		func(r *api.Rule) { r.Kids[0].N = 6 },
		func(r *api.Rule) { r.Kids[0], r.Kids[1] = r.Kids[1], r.Kids[0] },
		func(r *api.Rule) { r.Kids[1].Kids[0].Key = "l" },
		func(r *api.Rule) { r.Kids[1].Kids[0].Value = "w" },
	} {
		other := rule.Copy(r)
		turn(&other)
		if rule.Same(r, other) || rule.Same(other, r) {
			t.Errorf("%d: the same", i)
		}
	}
	for i, a := range wrong()[:24] {
		for k, b := range wrong()[:24] {
			if rule.Same(a, b) != (i == k) {
				t.Errorf("%d %d: %v", i, k, i != k)
			}
		}
	}
}

func TestSameEndsP1302(t *testing.T) {
	if !rule.Same(ring(api.RNot), ring(api.RNot)) || rule.Same(ring(api.RNot), ring(api.RAll)) {
		t.Error("policies that hold themselves")
	}
	a, b := err1, err1
	for range 60 {
		a, b = of(api.RAll, a, a), of(api.RAll, b, b)
	}
	if !rule.Same(a, b) {
		t.Error("policies that hold one thing many times")
	}
	if !rule.Same(deep(100000), deep(100000)) || rule.Same(deep(100000), deep(100001)) {
		t.Error("deep policies")
	}
}

func TestNewMemoryP1302(t *testing.T) {
	r := of(api.RAny, err1, of(api.RNot, err1))
	before := fmt.Sprint(r)
	b := rule.Bytes(r)
	read, _ := rule.Read(b)
	clear(b)
	copied := rule.Copy(r)
	copied.Kids[1].Kids[0].Kind = 77
	if fmt.Sprint(r) != before || fmt.Sprint(read) != before {
		t.Error("memory is shared")
	}
}

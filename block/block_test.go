package block_test

import (
	"bytes"
	"fmt"
	"math"
	"slices"
	"testing"

	"gleaning/api"
	"gleaning/block"
	"gleaning/check"
	"gleaning/ints"
	"gleaning/sample"
	"gleaning/span"
)

// work is a span of a trace.
func work(t api.Trace, id uint64) api.Span {
	return api.Span{Trace: t, Id: id, Service: "s", Op: "o", Attrs: []api.Attr{{Key: "k"}}}
}

// of is an episode of a trace with spans of these Ids.
func of(hi, lo uint64, ids ...uint64) api.Episode {
	e := api.Episode{Trace: api.Trace{Hi: hi, Lo: lo}, First: 3, Last: 4, Sure: true}
	for _, id := range ids {
		e.Spans = append(e.Spans, work(e.Trace, id))
	}
	return e
}

// full is a block that has all.
func full() api.Block {
	return block.Make(5, 300, 1, []api.Episode{of(2, 0, 1), of(1, 9, 2, 3), of(1, 9, 2)})
}

// same holds a thing against another one.
func same(t *testing.T, what string, got, want any) {
	t.Helper()
	if g, w := fmt.Sprint(got), fmt.Sprint(want); g != w {
		t.Errorf("%s: %s, not %s", what, g, w)
	}
}

func TestMakeP1801(t *testing.T) {
	l := []api.Episode{of(2, 0, 1), of(1, 9, 2), of(math.MaxUint64, 0, 3), of(1, 10, 4), of(1, 9, 5), of(2, 0, 6), of(1, 9, 2)}
	want := []api.Episode{l[1], l[4], l[6], l[3], l[0], l[5], l[2]}
	same(t, "by trace", block.Make(7, 8, 9, l), api.Block{Number: 7, Born: 8, Tier: 9, Episodes: want})
	same(t, "of none", block.Make(-7, math.MaxInt, math.MinInt, nil), api.Block{Number: -7, Born: math.MaxInt, Tier: math.MinInt})
	same(t, "not right ones", block.Make(0, 0, 0, []api.Episode{of(2, 0), of(1, 0)}).Episodes, []api.Episode{of(1, 0), of(2, 0)})
}

func TestRightP1801(t *testing.T) {
	for i, turn := range []func(b *api.Block){
		func(b *api.Block) {},
		func(b *api.Block) { b.Episodes = nil },
		func(b *api.Block) { b.Number, b.Born, b.Tier = 0, 0, 0 },
		func(b *api.Block) { b.Number, b.Born, b.Tier = api.MaxEpochs, api.MaxEpochs, api.MaxEpochs },
		func(b *api.Block) { b.Episodes[0].First, b.Episodes[0].Last = api.MaxEpochs, 0 },
		func(b *api.Block) { b.Episodes[0], b.Episodes[1] = b.Episodes[1], b.Episodes[0] },
		func(b *api.Block) { b.Episodes[2].Spans = nil; b.Episodes = b.Episodes[:2] },
	} {
		b := full()
		turn(&b)
		if !block.Right(b) || block.Size(b) != len(block.Bytes(b)) || block.Size(b) == 0 {
			t.Errorf("%d: not right", i)
		}
		got, err := block.Read(block.Bytes(b))
		same(t, fmt.Sprint(i), got, b)
		same(t, fmt.Sprint(i), err, api.OK)
	}
}

func TestNotRightP1801(t *testing.T) {
	for i, turn := range []func(b *api.Block){
		func(b *api.Block) { b.Number = -1 },
		func(b *api.Block) { b.Number = api.MaxEpochs + 1 },
		func(b *api.Block) { b.Born = -1 },
		func(b *api.Block) { b.Born = math.MaxInt },
		func(b *api.Block) { b.Tier = math.MinInt },
		func(b *api.Block) { b.Tier = api.MaxEpochs + 1 },
		func(b *api.Block) { b.Episodes[0].First = -1 },
		func(b *api.Block) { b.Episodes[1].First = api.MaxEpochs + 1 },
		func(b *api.Block) { b.Episodes[2].Last = -1 },
		func(b *api.Block) { b.Episodes[0].Last = api.MaxEpochs + 1 },
		func(b *api.Block) { b.Episodes[1].Spans = nil },
		func(b *api.Block) { b.Episodes[2].Spans[0].Op = "" },
		func(b *api.Block) { b.Episodes[0].Spans[1].Trace.Lo++ },
		func(b *api.Block) { b.Episodes[0].Spans[1].Id = b.Episodes[0].Spans[0].Id },
		func(b *api.Block) { b.Episodes[1], b.Episodes[2] = b.Episodes[2], b.Episodes[1] },
	} {
		b := full()
		turn(&b)
		if block.Right(b) || len(block.Bytes(b)) != 0 || block.Size(b) != 0 {
			t.Errorf("%d: right", i)
		}
	}
}

// summed puts the sum behind bytes.
func summed(b []byte) []byte {
	sum := check.Sum(b)
	return append(bytes.Clone(b), byte(sum), byte(sum>>8), byte(sum>>16), byte(sum>>24))
}

// body writes an episode as it is told.
func body(first, last uint64, sure byte, n uint64, l ...api.Span) []byte {
	b := append(ints.Put(ints.Put(nil, first), last), sure)
	b = ints.Put(b, n)
	for _, s := range l {
		b = append(b, span.Bytes(s)...)
	}
	return b
}

func TestBytesP1801(t *testing.T) {
	b := full()
	one := body(3, 4, 1, 2, b.Episodes[0].Spans...)
	two := body(3, 4, 1, 1, b.Episodes[1].Spans...)
	three := body(3, 4, 1, 1, b.Episodes[2].Spans...)
	want := []byte{5, 172, 2, 1, 3, 1, 9, byte(len(one)), 1, 9, byte(len(two)), 2, 0, byte(len(three))}
	want = summed(slices.Concat(want, one, two, three))
	if got := block.Bytes(b); !bytes.Equal(got, want) {
		t.Errorf("%v, not %v", got, want)
	}
	if got := block.Bytes(api.Block{}); !bytes.Equal(got, summed(make([]byte, 4))) {
		t.Errorf("of a zero one: %v", got)
	}
	b.Episodes[0].Sure = false
	if got := block.Bytes(b); got[16] != 0 {
		t.Errorf("not sure: %v", got)
	}
}

func TestReadOfNoneP1801(t *testing.T) {
	trace := api.Trace{Hi: 1, Lo: 9}
	a, z := work(trace, 1), work(trace, 2)
	good := body(3, 4, 1, 1, a)
	size := byte(len(good))
	head := func(head []byte, rest ...[]byte) []byte {
		return summed(slices.Concat(head, slices.Concat(rest...)))
	}
	if _, err := block.Read(head([]byte{0, 0, 0, 1, 1, 9, size}, good)); err != api.OK {
		t.Fatal("what is to be turned is not right itself")
	}
	whole := block.Bytes(full())
	wrong := [][]byte{
		nil,
		make([]byte, 4),
		head([]byte{0, 0, 0, 1, 1, 9, size + 1}, good),
		head([]byte{0, 0, 0, 1, 1, 9, size - 1}, good),
		head([]byte{0, 0, 0, 1, 1, 9, size + 1}, good, []byte{0}),
		head([]byte{0, 0, 0, 1, 1, 9, size}, good, []byte{0}),
		head([]byte{0, 0, 0, 2, 1, 9, size}, good),
		head([]byte{0, 0, 0, 0, 1, 9, size}, good),
		head([]byte{0, 0, 0, 1, 1, 8, size}, good),
		head([]byte{0, 0, 0, 1, 1, 9, 128 + size, 0}, good),
		head([]byte{0, 0, 0, 2, 1, 9, size, 1, 8, 4}, good, body(3, 4, 1, 0)),
		head([]byte{0, 0, 0, 1, 1, 9, 4}, body(3, 4, 1, 0)),
		head([]byte{0, 0, 0, 1, 1, 9, size}, body(3, 4, 2, 1, a)),
		head([]byte{0, 0, 0, 1, 1, 9, 4 + 2*(size-4)}, body(3, 4, 1, 2, a, a)),
		head([]byte{0, 0, 0, 1, 1, 9, 4 + 2*(size-4)}, body(3, 4, 1, 1, a, z)),
		head([]byte{0, 0, 0, 1, 1, 9, size + 5}, body(api.MaxEpochs+1, 4, 1, 1, a)),
		head([]byte{0, 0, 0, 1, 1, 9, size + 9}, body(math.MaxUint64, 4, 1, 1, a)),
		head([]byte{0, 0, 0, 2, 1, 9, size, 1, 8, size}, good, body(3, 4, 1, 1, work(api.Trace{Hi: 1, Lo: 8}, 1))),
		head(ints.Put(nil, api.MaxEpochs+1), []byte{0, 0, 0}),
		head(ints.Put([]byte{0, 0, 0}, 1<<62)),
		head(ints.Put([]byte{0, 0, 0, 1, 1, 9}, math.MaxUint64), good),
		head(ints.Put([]byte{0, 0, 0, 1, 1, 9, 13, 3, 4, 1}, 1<<62)),
		append(bytes.Clone(whole), 0),
	}
	for cut := range whole {
		wrong = append(wrong, whole[:cut])
	}
	for i := range whole {
		turned := bytes.Clone(whole)
		turned[i] ^= 1 << (i % 8)
		wrong = append(wrong, turned)
	}
	for i, b := range wrong {
		if got, err := block.Read(b); err != api.ErrBytes || fmt.Sprint(got) != fmt.Sprint(api.Block{}) {
			t.Errorf("%d: %v: %v %d", i, b, got, err)
		}
	}
}

func TestReadIsBytesBackP1801(t *testing.T) {
	c := sample.Chance(18)
	for range 1000 {
		b := block.Make(c.Next(300), c.Next(300), c.Next(5), c.Episodes(c.Next(6), 4))
		if !block.Right(b) {
			t.Fatal("not right")
		}
		raw := block.Bytes(b)
		got, err := block.Read(raw)
		same(t, "read", got, b)
		same(t, "read", err, api.OK)
		body := raw[:len(raw)-4]
		body[c.Next(len(body))] = byte(c.Next(256))
		if got, err := block.Read(summed(body)); err == api.OK && !bytes.Equal(block.Bytes(got), summed(body)) {
			t.Fatalf("%v: %v", body, got)
		}
	}
}

func TestFindP1801(t *testing.T) {
	b := full()
	same(t, "two", block.Find(b, api.Trace{Hi: 1, Lo: 9}), b.Episodes[:2])
	same(t, "one", block.Find(b, api.Trace{Hi: 2}), b.Episodes[2:])
	same(t, "none", block.Find(b, api.Trace{Hi: 1}), []api.Episode{})
	odd := api.Block{Number: -1, Episodes: []api.Episode{of(2, 0), of(1, 0), of(2, 0, 1)}}
	same(t, "in one that is not right", block.Find(odd, api.Trace{Hi: 2}), []api.Episode{of(2, 0), of(2, 0, 1)})
}

func TestNewMemoryP1802(t *testing.T) {
	l := []api.Episode{of(2, 0, 1), of(1, 9, 2, 3)}
	b := full()
	before := fmt.Sprint(l, b)
	spoil := func(l []api.Episode) {
		for _, e := range l {
			for i := range e.Spans {
				clear(e.Spans[i].Attrs)
				e.Spans[i].Id = 77
			}
		}
		clear(l)
	}
	spoil(block.Make(0, 0, 0, l).Episodes)
	spoil(block.Find(b, api.Trace{Hi: 1, Lo: 9}))
	raw := block.Bytes(b)
	read, _ := block.Read(raw)
	clear(raw)
	same(t, "read", read, b)
	spoil(read.Episodes)
	same(t, "what was handed in", fmt.Sprint(l, b), before)
}

package span_test

import (
	"bytes"
	"fmt"
	"math"
	"strings"
	"testing"

	"gleaning/api"
	"gleaning/ints"
	"gleaning/sample"
	"gleaning/span"
)

// full is a span that has all.
func full() api.Span {
	return api.Span{
		Trace: api.Trace{Hi: math.MaxUint64, Lo: 300}, Id: 5, Parent: 1 << 40,
		Service: "shop", Op: "pay", Start: 1000, Dur: 20, Err: true,
		Attrs: []api.Attr{{Key: "user", Value: "ann"}, {Key: "empty", Value: ""}},
	}
}

// turned are spans that each have one thing turned.
func turned(turns ...func(s *api.Span)) []api.Span {
	out := []api.Span(nil)
	for _, turn := range turns {
		s := full()
		turn(&s)
		out = append(out, s)
	}
	return out
}

func TestRightP301(t *testing.T) {
	long := strings.Repeat("x", api.MaxName)
	for i, s := range turned(
		func(s *api.Span) {},
		func(s *api.Span) { s.Attrs = nil },
		func(s *api.Span) { s.Trace, s.Id, s.Parent = api.Trace{}, 0, 0 },
		func(s *api.Span) { s.Service, s.Op = "a", long },
		func(s *api.Span) { s.Service, s.Op = long, "\x00" },
		func(s *api.Span) { s.Start, s.Dur = 0, 0 },
		func(s *api.Span) { s.Start, s.Dur = api.MaxStart, api.MaxDur },
		func(s *api.Span) { s.Attrs = []api.Attr{{Key: long, Value: long}, {Key: "b"}, {Key: "c"}, {Key: "d"}} },
	) {
		if !span.Right(s) {
			t.Errorf("%d: not right: %v", i, s)
		}
		b := span.Bytes(s)
		got, n, err := span.Read(append(bytes.Clone(b), 1, 2, 3))
		if !span.Same(got, s) || n != len(b) || err != api.OK {
			t.Errorf("%d: read %v: %v %d %d", i, s, got, n, err)
		}
	}
}

func TestNotRightP301(t *testing.T) {
	over := strings.Repeat("x", api.MaxName+1)
	for i, s := range append(turned(
		func(s *api.Span) { s.Service = "" },
		func(s *api.Span) { s.Service = over },
		func(s *api.Span) { s.Op = "" },
		func(s *api.Span) { s.Op = over },
		func(s *api.Span) { s.Start = -1 },
		func(s *api.Span) { s.Start = api.MaxStart + 1 },
		func(s *api.Span) { s.Dur = -1 },
		func(s *api.Span) { s.Dur = api.MaxDur + 1 },
		func(s *api.Span) { s.Start, s.Dur = math.MinInt, math.MaxInt },
		func(s *api.Span) { s.Attrs = []api.Attr{{Key: ""}} },
		func(s *api.Span) { s.Attrs = []api.Attr{{Key: over}} },
		func(s *api.Span) { s.Attrs = []api.Attr{{Key: "a", Value: over}} },
		func(s *api.Span) { s.Attrs = []api.Attr{{Key: "a", Value: "1"}, {Key: "b"}, {Key: "a", Value: "2"}} },
		func(s *api.Span) { s.Attrs = []api.Attr{{Key: "a"}, {Key: "b"}, {Key: "c"}, {Key: "d"}, {Key: "e"}} },
	), api.Span{}) {
		if span.Right(s) || len(span.Bytes(s)) != 0 {
			t.Errorf("%d: right: %v", i, s)
		}
	}
}

func TestBytesP301(t *testing.T) {
	s := full()
	want := ints.Put(nil, math.MaxUint64)
	want = append(want, 172, 2, 5)
	want = ints.Put(want, 1<<40)
	want = append(want, "\x04shop\x03pay"...)
	want = append(want, 232, 7, 20, 1, 2)
	want = append(want, "\x04user\x03ann\x05empty\x00"...)
	if got := span.Bytes(s); !bytes.Equal(got, want) {
		t.Errorf("%v, not %v", got, want)
	}
	s.Err, s.Attrs = false, nil
	if got := span.Bytes(s); got[len(got)-1] != 0 || got[len(got)-2] != 0 {
		t.Errorf("no error, no attributes: %v", got)
	}
}

// raw writes a span's fields as they are told, right or not.
func raw(start, dur uint64, flag byte, attrs ...string) []byte {
	b := []byte("\x01\x02\x03\x04\x01s\x01o")
	b = ints.Put(ints.Put(b, start), dur)
	b = append(b, flag, byte(len(attrs)/2))
	for _, a := range attrs {
		b = ints.Text(b, a)
	}
	return b
}

func TestReadOfNoneP301(t *testing.T) {
	if _, _, err := span.Read(raw(1, 2, 1, "a", "b")); err != api.OK {
		t.Fatal("what is to be turned is not right itself")
	}
	b := span.Bytes(full())
	wrong := [][]byte{
		nil,
		raw(api.MaxStart+1, 0, 0),
		raw(0, api.MaxDur+1, 0),
		raw(math.MaxUint64, 0, 0),
		raw(0, 1<<63, 0),
		raw(0, 0, 2),
		raw(0, 0, 129),
		raw(0, 0, 0, "", "a"),
		raw(0, 0, 0, "a", strings.Repeat("x", 17)),
		raw(0, 0, 0, "a", "b", "a", "c"),
		raw(0, 0, 0, "a", "", "b", "", "c", "", "d", "", "e", ""),
		[]byte("\x01\x02\x03\x04\x00\x01o\x00\x00\x00\x00"),
		[]byte("\x01\x02\x03\x04\x01s\x00\x00\x00\x00\x00"),
		[]byte("\x81\x00\x02\x03\x04\x01s\x01o\x00\x00\x00\x00"),
		[]byte("\x01\x02\x03\x04\x01s\x01o\x00\x00\x80\x00\x00"),
		append([]byte("\x01\x02\x03\x04\x01s\x01o\x00\x00\x00"), ints.Put(nil, math.MaxUint64)...),
		append([]byte("\x01\x02\x03\x04\x01s\x01o\x00\x00\x00"), ints.Put(nil, math.MaxInt64)...),
	}
	for cut := range b {
		wrong = append(wrong, b[:cut])
	}
	for i, b := range wrong {
		if s, n, err := span.Read(b); err != api.ErrBytes || n != 0 || !span.Same(s, api.Span{}) {
			t.Errorf("%d: %v: %v %d %d", i, b, s, n, err)
		}
	}
}

func TestReadIsBytesBackP301(t *testing.T) {
	c := sample.Chance(3)
	for range 2000 {
		b := span.Bytes(c.Span(5))
		b[c.Next(len(b))] = byte(c.Next(256))
		if s, n, err := span.Read(b); err == api.OK && !bytes.Equal(span.Bytes(s), b[:n]) {
			t.Fatalf("%v: %v %d", b, s, n)
		}
	}
}

func TestSameP302(t *testing.T) {
	if !span.Same(full(), full()) || !span.Same(api.Span{}, api.Span{Attrs: []api.Attr{}}) {
		t.Error("not the same")
	}
	for i, s := range turned(
		func(s *api.Span) { s.Trace.Hi++ },
		func(s *api.Span) { s.Trace.Lo++ },
		func(s *api.Span) { s.Id++ },
		func(s *api.Span) { s.Parent++ },
		func(s *api.Span) { s.Service = "" },
		func(s *api.Span) { s.Op = "" },
		func(s *api.Span) { s.Start = -s.Start },
		func(s *api.Span) { s.Dur = 0 },
		func(s *api.Span) { s.Err = false },
		func(s *api.Span) { s.Attrs = nil },
		func(s *api.Span) { s.Attrs = s.Attrs[:1] },
		func(s *api.Span) { s.Attrs[0].Key = "" },
		func(s *api.Span) { s.Attrs[1].Value = "x" },
		func(s *api.Span) { s.Attrs[0], s.Attrs[1] = s.Attrs[1], s.Attrs[0] },
	) {
		if span.Same(s, full()) || span.Same(full(), s) {
			t.Errorf("%d: the same: %v", i, s)
		}
	}
}

func TestNewMemoryP302(t *testing.T) {
	s := full()
	before := fmt.Sprint(s)
	b := span.Bytes(s)
	read, _, _ := span.Read(b)
	clear(b)
	copied := span.Copies([]api.Span{s})
	copied[0].Attrs[0].Key = "other"
	if fmt.Sprint(s) != before || fmt.Sprint(read) != before {
		t.Error("memory is shared")
	}
}

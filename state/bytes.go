package state

import (
	"gleaning/api"
	"gleaning/block"
	"gleaning/check"
	"gleaning/ints"
	"gleaning/rule"
)

// Bytes writes a state that is Right; of its blocks their numbers alone.
func Bytes(s api.State) []byte {
	if !Right(s) {
		return nil
	}
	b := putInts(nil, s.Now, s.Sec, s.Kept, s.Next)
	b = ints.AppendText(b, string(rule.Bytes(s.Policy)))
	b = putList(b, s.Open, putEpisode)
	b = putList(b, s.Pending, putEpisode)
	b = putList(b, s.Memo, putVerdict)
	b = putList(b, s.Rows, putRow)
	b = putList(b, s.Edges, putEdge)
	b = putList(b, s.Slots, putSlot)
	b = putList(b, s.Blocks, putBlock)
	return check.Append(b)
}

// putInts writes numbers that are not below 0.
func putInts(b []byte, l ...int) []byte {
	for _, n := range l {
		b = ints.Append(b, uint64(n))
	}
	return b
}

// putList writes how many they are, and each.
func putList[T any](b []byte, l []T, put func(b []byte, one T) []byte) []byte {
	b = putInts(b, len(l))
	for _, one := range l {
		b = put(b, one)
	}
	return b
}

func putTrace(b []byte, t api.Trace) []byte {
	return ints.Append(ints.Append(b, t.Hi), t.Lo)
}

func putEpisode(b []byte, e api.Episode) []byte {
	return block.AppendBody(putTrace(b, e.Trace), e)
}

func putVerdict(b []byte, v api.Verdict) []byte {
	return ints.AppendFlag(putTrace(b, v.Trace), v.Kept)
}

func putRow(b []byte, r api.Row) []byte {
	b = putInts(b, r.Level, r.Window)
	b = ints.AppendText(b, r.Service)
	b = ints.AppendText(b, r.Op)
	b = putInts(b, r.Counter.Count, r.Counter.Errs)
	return putInts(b, r.Counter.By[:]...)
}

func putEdge(b []byte, e api.Edge) []byte {
	b = ints.AppendText(b, e.From)
	b = ints.AppendText(b, e.To)
	return putInts(b, e.Count, e.Errs)
}

func putSlot(b []byte, e api.Exemplar) []byte {
	b = ints.AppendText(b, e.Service)
	b = ints.AppendText(b, e.Op)
	b = ints.Append(putTrace(b, e.Trace), e.Id)
	return putInts(b, e.Block)
}

func putBlock(b []byte, one api.Block) []byte {
	return putInts(b, one.Number, one.Born, one.Tier)
}

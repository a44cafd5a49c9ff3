package state

import (
	"gleaning/api"
	"gleaning/block"
	"gleaning/check"
	"gleaning/ints"
	"gleaning/rule"
)

// Read reads a state back; its blocks have no episodes.
func Read(b []byte) (api.State, api.Errno) {
	body, ok := check.Cut(b)
	if !ok {
		return api.State{}, api.ErrBytes
	}
	r := &ints.Reader{Rest: body}
	s := api.State{}
	getInts(r, &s.Now, &s.Sec, &s.Kept, &s.Next)
	s.Policy = getPolicy(r)
	s.Open = getList(r, getEpisode)
	s.Pending = getList(r, getEpisode)
	s.Memo = getList(r, getVerdict)
	s.Rows = getList(r, getRow)
	s.Edges = getList(r, getEdge)
	s.Slots = getList(r, getSlot)
	s.Blocks = getList(r, getBlock)
	if !r.Done() || !Right(s) {
		return api.State{}, api.ErrBytes
	}
	return s, api.OK
}

// getInts reads numbers to where they belong.
func getInts(r *ints.Reader, to ...*int) {
	for _, n := range to {
		*n = r.Number()
	}
}

// getList reads how many there are, and each.
func getList[T any](r *ints.Reader, get func(r *ints.Reader) T) []T {
	l := []T(nil)
	for n := r.Number(); n > 0 && !r.Bad; n-- {
		l = append(l, get(r))
	}
	return l
}

func getPolicy(r *ints.Reader) api.Rule {
	p, err := rule.Read([]byte(r.Text()))
	if err != api.OK {
		r.Fail()
	}
	return p
}

func getTrace(r *ints.Reader) api.Trace {
	t := api.Trace{}
	t.Hi = r.Wide()
	t.Lo = r.Wide()
	return t
}

func getEpisode(r *ints.Reader) api.Episode {
	return block.ReadBody(r, getTrace(r))
}

func getVerdict(r *ints.Reader) api.Verdict {
	v := api.Verdict{Trace: getTrace(r)}
	v.Kept = r.Flag()
	return v
}

func getRow(r *ints.Reader) api.Row {
	row := api.Row{}
	getInts(r, &row.Level, &row.Window)
	row.Service = r.Text()
	row.Op = r.Text()
	getInts(r, &row.Counter.Count, &row.Counter.Errs)
	for i := range row.Counter.By {
		row.Counter.By[i] = r.Number()
	}
	return row
}

func getEdge(r *ints.Reader) api.Edge {
	e := api.Edge{}
	e.From = r.Text()
	e.To = r.Text()
	getInts(r, &e.Count, &e.Errs)
	return e
}

func getSlot(r *ints.Reader) api.Exemplar {
	e := api.Exemplar{}
	e.Service = r.Text()
	e.Op = r.Text()
	e.Trace = getTrace(r)
	e.Id = r.Wide()
	e.Block = r.Number()
	return e
}

func getBlock(r *ints.Reader) api.Block {
	b := api.Block{}
	getInts(r, &b.Number, &b.Born, &b.Tier)
	return b
}

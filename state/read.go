package state

import (
	"gleaning/api"
	"gleaning/block"
	"gleaning/check"
	"gleaning/ints"
	"gleaning/rule"
)

// Read reads a state back; its blocks have no episodes.
func Read(b []byte) (api.State, api.Errno) {
	body, ok := check.Cut(b)
	if !ok {
		return api.State{}, api.ErrBytes
	}
	r := &ints.Reader{Rest: body}
	s := api.State{}
	s.Now = r.Number()
	s.Sec = r.Number()
	s.Kept = r.Number()
	s.Next = r.Number()
	s.Policy = getPolicy(r)
	s.Open = getList(r, getEpisode)
	s.Pending = getList(r, getEpisode)
	s.Memo = getList(r, getVerdict)
	s.Rows = getList(r, getRow)
	s.Edges = getList(r, getEdge)
	s.Slots = getList(r, getSlot)
	s.Blocks = getList(r, getBlock)
	if !r.Done() || !Right(s) {
		return api.State{}, api.ErrBytes
	}
	return s, api.OK
}

// getList reads how many there are, and each.
func getList[T any](r *ints.Reader, get func(r *ints.Reader) T) []T {
	l := []T(nil)
	for n := r.Number(); n > 0 && !r.Bad; n-- {
		l = append(l, get(r))
	}
	return l
}

func getPolicy(r *ints.Reader) api.Rule {
	p, err := rule.Read([]byte(r.Text()))
	if err != api.OK {
		r.Fail()
	}
	return p
}

func getTrace(r *ints.Reader) api.Trace {
	t := api.Trace{}
	t.Hi = r.Wide()
	t.Lo = r.Wide()
	return t
}

func getEpisode(r *ints.Reader) api.Episode {
	return block.ReadBody(r, getTrace(r))
}

func getVerdict(r *ints.Reader) api.Verdict {
	v := api.Verdict{Trace: getTrace(r)}
	v.Kept = r.Flag()
	return v
}

func getRow(r *ints.Reader) api.Row {
	row := api.Row{}
	row.Level = r.Number()
	row.Window = r.Number()
	row.Service = r.Text()
	row.Op = r.Text()
	row.Counter.Count = r.Number()
	row.Counter.Errs = r.Number()
	for i := range row.Counter.By {
		row.Counter.By[i] = r.Number()
	}
	return row
}

func getEdge(r *ints.Reader) api.Edge {
	e := api.Edge{}
	e.From = r.Text()
	e.To = r.Text()
	e.Count = r.Number()
	e.Errs = r.Number()
	return e
}

func getSlot(r *ints.Reader) api.Exemplar {
	e := api.Exemplar{}
	e.Service = r.Text()
	e.Op = r.Text()
	e.Trace = getTrace(r)
	e.Id = r.Wide()
	e.Block = r.Number()
	return e
}

func getBlock(r *ints.Reader) api.Block {
	b := api.Block{}
	b.Number = r.Number()
	b.Born = r.Number()
	b.Tier = r.Number()
	return b
}

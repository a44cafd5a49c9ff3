package words

import (
	"gleaning/api"
	"gleaning/rule"
)

const (
	quote  = '"'
	escape = '\\' // the byte behind it stands for itself
)

// most is how many digits a number has at most.
const most = 10

// Kinds of tokens. Those of one byte are that byte.
const (
	none   = 0 // no token
	end    = 1
	letter = 'a'
	digit  = '0'
)

// parser reads a policy, token by token. Once one does not fit it is bad, and stays where that begins.
type parser struct {
	s    string
	next int // where the reading goes on
	at   int // where the present token begins
	kind byte
	text string // of a word or a text
	n    int    // of a number
	bad  bool
}

// Parse reads a policy: it, and -1, or where it is none.
func Parse(s string) (api.Rule, int, api.Errno) {
	if len(s) > api.MaxText {
		return api.Rule{}, 0, api.ErrArg
	}
	p := parser{s: s}
	p.read()
	r := p.policy()
	if p.bad || p.kind != end {
		return api.Rule{}, p.at, api.ErrBytes
	}
	if !rule.Right(r) {
		return api.Rule{}, 0, api.ErrArg
	}
	return r, -1, api.OK
}

// policy reads a policy.
func (p *parser) policy() api.Rule {
	r := api.Rule{}
	if p.kind == letter {
		r.Kind = kindOf(p.text)
	}
	if p.bad || r.Kind == 0 {
		p.bad = true
		return api.Rule{}
	}
	p.read()
	switch r.Kind {
	case api.RErr:
	case api.RAttr:
		r.Key = p.quoted()
		r.Value = p.quoted()
	case api.RNot:
		p.take('(')
		r.Kids = append(r.Kids, p.policy())
		p.take(')')
	case api.RAll, api.RAny:
		r.Kids = p.kids()
	default:
		r.N = p.n
		p.take(digit)
	}
	return r
}

// kids reads policies between brackets, or none.
func (p *parser) kids() []api.Rule {
	l := []api.Rule(nil)
	p.take('(')
	if p.kind != ')' {
		l = append(l, p.policy())
		for p.kind == ',' && !p.bad {
			p.read()
			l = append(l, p.policy())
		}
	}
	p.take(')')
	return l
}

// quoted reads a text.
func (p *parser) quoted() string {
	s := p.text
	p.take(quote)
	return s
}

// take reads on behind a token of that kind.
func (p *parser) take(kind byte) {
	if p.kind != kind {
		p.bad = true
	}
	p.read()
}

package words_test

import (
	"fmt"
	"math"
	"strings"
	"testing"

	"gleaning/api"
	"gleaning/rule"
	"gleaning/sample"
	"gleaning/words"
)

// of is a rule of a kind with kids.
func of(kind int, kids ...api.Rule) api.Rule {
	return api.Rule{Kind: kind, Kids: kids}
}

// n is a rule of a kind with a number.
func n(kind, n int) api.Rule {
	return api.Rule{Kind: kind, N: n}
}

// attr is a rule that asks for an attribute.
func attr(key, value string) api.Rule {
	return api.Rule{Kind: api.RAttr, Key: key, Value: value}
}

var errs = api.Rule{Kind: api.RErr}

// policies are policies with what Print writes of them.
func policies() map[string]api.Rule {
	return map[string]api.Rule{
		`all()`:                       of(api.RAll),
		`any()`:                       of(api.RAny),
		`all(err)`:                    of(api.RAll, errs),
		`any(err, slow 0)`:            of(api.RAny, errs, n(api.RSlow, 0)),
		`not(err)`:                    of(api.RNot, errs),
		`not(not(all()))`:             of(api.RNot, of(api.RNot, of(api.RAll))),
		`slow 1073741824`:             n(api.RSlow, api.MaxDur),
		`err`:                         errs,
		`attr "k" ""`:                 attr("k", ""),
		`attr "a b" "c,("`:            attr("a b", "c,("),
		`attr "\"" "\\"`:              attr(`"`, `\`),
		`attr "\\\"" "\"x"`:           attr(`\"`, `"x`),
		"attr \"\n\t\" \"\x00\xff'\"": attr("\n\t", "\x00\xff'"),
		`many 7`:                      n(api.RMany, 7),
		`hash 1000`:                   n(api.RHash, 1000),
		`rate 1000000`:                n(api.RRate, 1000000),
		`all(any(), not(attr "k" "v"), any(many 1, hash 2, rate 3))`: of(api.RAll, of(api.RAny), of(api.RNot, attr("k", "v")), of(api.RAny, n(api.RMany, 1), n(api.RHash, 2), n(api.RRate, 3))),
	}
}

func TestPrintP2801(t *testing.T) {
	for want, r := range policies() {
		if got := words.Print(r); got != want {
			t.Errorf("%s, not %s", got, want)
		}
		if got, at, err := words.Parse(want); err != api.OK || at != -1 || !rule.Same(got, r) {
			t.Errorf("%s: %v %d %d", want, got, at, err)
		}
	}
	ring := make([]api.Rule, 1)
	ring[0] = of(api.RNot, ring...)
	for i, r := range []api.Rule{{}, n(10, 0), n(api.RErr, 1), n(api.RSlow, -1), attr("", "v"), of(api.RNot), ring[0], of(api.RAll, errs, n(api.RHash, 1001))} {
		if got := words.Print(r); got != "" {
			t.Errorf("%d: %s", i, got)
		}
	}
}

func TestParseWithBlanksOrNotP2801(t *testing.T) {
	for s, want := range map[string]string{
		"err\n":                        "err",
		" \n err ":                     "err",
		"slow5":                        "slow 5",
		"slow\n\n 0":                   "slow 0",
		"all ( err,err , err,\nerr ) ": "all(err, err, err, err)",
		"any( )":                       "any()",
		`attr"k""v"`:                   `attr "k" "v"`,
		`attr "\k"` + "\n" + `"\"\v"`:  `attr "k" "\"v"`,
		`not(attr"a\\""b"  )`:          `not(attr "a\\" "b")`,
		"all(slow1,many2,hash3,rate4)": "all(slow 1, many 2, hash 3, rate 4)",
	} {
		r, at, err := words.Parse(s)
		if got := words.Print(r); got != want || at != -1 || err != api.OK {
			t.Errorf("%q: %s %d %d", s, got, at, err)
		}
	}
}

func TestParseOfNoneP2801(t *testing.T) {
	for s, want := range map[string]int{
		"": 0, " ": 1, "\n \n": 3,
		"x": 0, "  x": 2, "allx()": 0, "errs": 0, "errz": 0, "zerr": 0, "a": 0, "erra": 0, "Err": 0, "eRR": 0, "5": 0, `"err"`: 0, "(": 0, ")": 0, ",": 0, "(err)": 0,
		"\terr": 0, "err\t": 3, "err\r\n": 3, "err\x00": 3, "err é": 4, "-5": 0,
		"err err": 4, "err,": 3, "err)": 3, "err()": 3, "err 5": 4, "err #": 4, `err "`: 4,
		"all": 3, "all ": 4, "all err": 4, "all(": 4, "all(,": 4, "all(,)": 4, "all(err": 7, "all(err,": 8, "all(err,)": 8, "all(err err)": 8, "all(err,,err)": 8, "all(err))": 8, "all() ()": 6,
		"any(err, bad)": 9, "any(err, 7": 9, "any[": 3,
		"not": 3, "not()": 4, "not(err,err)": 7, "not(err, err)": 7, "not err": 4, "not not": 4, "not not(err)": 4, "not(": 4, "not(err": 7,
		"slow": 4, "slow ": 5, "slow x": 5, "slow x5": 5, "slow (5)": 5, `slow "5"`: 5, "slow -5": 5, "slow 05": 5, "slow 00": 5, "slow 5 5": 7, "slow 5x": 6, "slow 5.0": 6,
		"slow 12345678901": 5, "slow 01234567890": 5, "many": 4, "hash,": 4, "rate rate": 5,
		"attr": 4, "attr k": 5, `attr "k"`: 8, `attr "k" `: 9, `attr "k" v`: 9, `attr "k" "v`: 9, `attr "k`: 5, `attr "k\" "v"`: 11, `attr "k" "v\"`: 9, `attr "k" "v\`: 9, `attr "k", "v"`: 8, `attr "k" "v" "w"`: 13, `attr "k" 5`: 9,
		"all(slow 00, #": 9, "all(#, slow 00": 4, "slow 99999999999999999999999999999999999999": 5,
	} {
		if r, at, err := words.Parse(s); err != api.ErrBytes || at != want || !rule.Same(r, api.Rule{}) {
			t.Errorf("%q: %v at %d, not %d: %d", s, r, at, want, err)
		}
	}
}

func TestParseOfWhatIsNotRightP2801(t *testing.T) {
	long := strings.Repeat("x", api.MaxName)
	for s, ok := range map[string]bool{
		"slow 1073741824": true, "slow 1073741825": false, "slow 9999999999": false,
		"many 1000": true, "many 1001": false, "hash 1001": false, "rate 1000001": false, "rate 9999999999": false,
		`attr "" "v"`: false, `attr "` + long + `" "` + long + `"`: true, `attr "` + long + `x" ""`: false, `attr "k" "` + long + `x"`: false,
		"not(not(not(not(err))))": true, "not(not(not(not(not(err)))))": false,
		"all(" + strings.Repeat("err,", 18) + "err)": true, "all(" + strings.Repeat("err,", 19) + "err)": false,
		strings.Repeat("not(", 400) + "err" + strings.Repeat(")", 400): false,
		" many 1001 ": false,
	} {
		r, at, err := words.Parse(s)
		if ok && (err != api.OK || at != -1 || !rule.Right(r)) || !ok && (err != api.ErrArg || at != 0 || !rule.Same(r, api.Rule{})) {
			t.Errorf("%.60q: %v %d %d", s, r, at, err)
		}
	}
}

func TestParseOfTooLongP2801(t *testing.T) {
	full := "err" + strings.Repeat(" ", api.MaxText-3)
	if r, at, err := words.Parse(full); err != api.OK || at != -1 || r.Kind != api.RErr {
		t.Errorf("just not too long: %d %d", at, err)
	}
	for _, s := range []string{full + " ", strings.Repeat("#", api.MaxText+1), strings.Repeat("all(", 100000)} {
		if r, at, err := words.Parse(s); err != api.ErrArg || at != 0 || !rule.Same(r, api.Rule{}) {
			t.Errorf("too long: %d %d", at, err)
		}
	}
	for _, s := range []string{"#", "all(", "not not", "(", "attr\"\\", "1"} {
		long := strings.Repeat(s, api.MaxText/len(s))
		if _, _, err := words.Parse(long); err != api.ErrBytes {
			t.Errorf("%s..: %d", s, err)
		}
	}
}

func TestParseOfPrintP2802(t *testing.T) {
	c := sample.Chance(28)
	for range 3000 {
		r := c.Rule(4)
		for i := range r.Kids {
			if r.Kids[i].Kind == api.RAttr {
				r.Kids[i].Key = string(c.Bytes(1 + c.Next(16)))
				r.Kids[i].Value = string(c.Bytes(c.Next(17)))
			}
		}
		s := words.Print(r)
		if !rule.Right(r) {
			continue
		}
		if got, at, err := words.Parse(s); err != api.OK || at != -1 || !rule.Same(got, r) {
			t.Fatalf("%q: %v, not %v: %d %d", s, got, r, at, err)
		}
	}
}

func TestParseEndsP2802(t *testing.T) {
	c := sample.Chance(29)
	pieces := []string{"all", "any", "not", "slow", "err", "attr", "many", "(", ")", ",", " ", "\n", `"`, `\`, "0", "7", "x", "#", `"k"`}
	for range 20000 {
		s := ""
		for range c.Next(12) {
			s += pieces[c.Next(len(pieces))]
		}
		r, at, err := words.Parse(s)
		ok := err == api.OK && at == -1 && rule.Right(r) || err == api.ErrBytes && at >= 0 && at <= len(s) || err == api.ErrArg && at == 0
		if !ok {
			t.Fatalf("%q: %v %d %d", s, r, at, err)
		}
		if again, at2, err2 := words.Parse(s); fmt.Sprint(r, at, err) != fmt.Sprint(again, at2, err2) {
			t.Fatalf("%q: the second answer is another one", s)
		}
	}
	if words.Print(n(math.MinInt, 0)) != "" {
		t.Error("no kind")
	}
}

package voter_test

import (
	"math"
	"math/rand"
	"reflect"
	"slices"
	"testing"

	"tandem/api"
	"tandem/voter"
)

// What the document says of voters, in numbers of the tests' own.
const (
	top      = 1 << 40 // a term, a time, a record's N and a Boot at most
	none     = -1
	anyone   = -2
	witness  = 2
	promised = 1100 // how long a promise holds
)

// rec tells a record of its three parts.
func rec(term, n, set int) api.Record { return api.Record{Term: term, N: n, Set: set} }

// meta tells a meta that was opened seven times.
func meta(term, vote int, r api.Record) api.Meta {
	return api.Meta{Term: term, Vote: vote, Rec: r, Boot: 7}
}

// to tells a promise.
func to(node, from int) api.Promise { return api.Promise{To: node, From: from} }

// numbers tells what a term, a time, an N and a Boot can be, and what they can not.
func numbers() []int {
	return []int{math.MinInt, math.MinInt + 1, -1 << 62, -top, -1 << 32, -2, -1, 0, 1, 2, 1 << 31, 1 << 32, top - 1, top, top + 1, top + 2, 2 * top, 1 << 62, math.MaxInt - 1, math.MaxInt}
}

// nodes tells the nodes, and what is none.
func nodes() []int {
	return []int{math.MinInt, -1 << 32, -4, -3, anyone, none, 0, 1, 2, 3, 4, 1 << 32, 1<<32 + 1, top, math.MaxInt}
}

// other tells the other data node of one, and of the witness one of them.
func other(node int) int {
	if node == 1 {
		return 0
	}
	return 1
}

// badRecs tells records of a term that may not be, by each of their parts.
func badRecs(term int) []api.Record {
	var all []api.Record
	for _, n := range numbers() {
		if !isNumber(n) {
			all = append(all, rec(n, 0, 3), rec(term, n, 3))
		}
	}
	for _, set := range []int{math.MinInt, math.MinInt + 3, -1 << 32, -4, -3, -2, -1, 0, 4, 5, 7, 8, 1 << 32, 1<<32 + 3, math.MaxInt} {
		all = append(all, rec(term, 0, set))
	}
	return all
}

// deed is a call of a voter: its name, and what it is handed; n is the time, or the term.
type deed struct {
	call string
	m    api.Msg
	n    int
	r    api.Record
}

func ask(m api.Msg, now int) deed  { return deed{call: "Ask", m: m, n: now} }
func beat(m api.Msg, now int) deed { return deed{call: "Beat", m: m, n: now} }
func note(m api.Msg) deed          { return deed{call: "Note", m: m} }
func hear(term int) deed           { return deed{call: "Hear", n: term} }
func stand(now int) deed           { return deed{call: "Stand", n: now} }
func renew(now int) deed           { return deed{call: "Renew", n: now} }
func yield() deed                  { return deed{call: "Yield"} }
func set(r api.Record) deed        { return deed{call: "Set", r: r} }

// asked, beaten and noted tell the messages that are right for Ask, Beat and Note. What their kind has not may stand in them, and is not looked at.
func asked(from, term int, r api.Record) api.Msg {
	return api.Msg{Kind: api.MsgAsk, From: from, Term: term, Rec: r, Stamp: 31}
}

func beaten(from, term int) api.Msg {
	return api.Msg{Kind: api.MsgBeat, From: from, Term: term, Stamp: 32}
}

func noted(from, term int, r api.Record) api.Msg {
	return api.Msg{Kind: api.MsgNote, From: from, Term: term, Rec: r}
}

// said is what a call answers: all of it that it has.
type said struct {
	M       api.Msg
	Term    int
	Changed bool
	Err     api.Errno
}

// to does a deed to a voter.
func (d deed) to(v *voter.Voter) (s said) {
	switch d.call {
	case "Ask":
		s.M, s.Changed, s.Err = v.Ask(d.m, d.n)
	case "Beat":
		s.M, s.Changed, s.Err = v.Beat(d.m, d.n)
	case "Note":
		s.M, s.Changed, s.Err = v.Note(d.m)
	case "Hear":
		s.Changed, s.Err = v.Hear(d.n)
	case "Stand":
		s.Term, s.Err = v.Stand(d.n)
	case "Renew":
		s.Err = v.Renew(d.n)
	case "Yield":
		s.Err = v.Yield()
	case "Set":
		s.Err = v.Set(d.r)
	default:
		panic(d.call)
	}
	return s
}

// granted, obeyed and kept tell what Ask, Beat and Note answer to the messages above.
func granted(node, term int, r api.Record, ok, changed bool) said {
	return said{M: api.Msg{Kind: api.MsgGrant, From: node, Term: term, OK: ok, Stamp: 31, Rec: r}, Changed: changed}
}

func obeyed(node, term int, ok, changed bool) said {
	return said{M: api.Msg{Kind: api.MsgBeatAck, From: node, Term: term, OK: ok, Stamp: 32}, Changed: changed}
}

func kept(node, term int, r api.Record, ok, changed bool) said {
	return said{M: api.Msg{Kind: api.MsgNoteAck, From: node, Term: term, OK: ok, Rec: r}, Changed: changed}
}

// made tells a voter of a node.
func made(t *testing.T, node int, m api.Meta, now int) *voter.Voter {
	t.Helper()
	v, err := voter.New(node, m, now)
	if v == nil || err != api.OK {
		t.Fatalf("New(%d, %+v, %d) = %v, %v", node, m, now, v, err)
	}
	holds(t, v, m, to(anyone, now))
	return v
}

// promises tells a voter with this meta and this promise, to the other one of a data node, or to a data node by the witness.
func promises(t *testing.T, node int, m api.Meta, p api.Promise) *voter.Voter {
	t.Helper()
	v := made(t, node, m, 0)
	does(t, v, beat(beaten(p.To, m.Term), p.From), obeyed(node, m.Term, true, false))
	holds(t, v, m, p)
	return v
}

// stood tells a voter of a data node that stood for a term, at a time from 1,100 on: it has voted for itself, and its promise is its own.
func stood(t *testing.T, node, term int, r api.Record, now int) *voter.Voter {
	t.Helper()
	v := made(t, node, meta(term-1, none, r), 0)
	does(t, v, stand(now), said{Term: term})
	holds(t, v, meta(term, node, r), to(node, now))
	return v
}

// yielded tells a voter of a data node that stood for a term, and gave its promise up.
func yielded(t *testing.T, node, term int, r api.Record) *voter.Voter {
	t.Helper()
	v := stood(t, node, term, r, promised)
	does(t, v, yield(), said{})
	holds(t, v, meta(term, node, r), to(none, 0))
	return v
}

// does holds what a voter answers to a deed.
func does(t *testing.T, v *voter.Voter, d deed, want said) {
	t.Helper()
	was, vow := v.Meta(), v.Promise()
	if got := d.to(v); !reflect.DeepEqual(got, want) {
		t.Fatalf("at %+v, %+v: %+v\nanswers %+v\nand not %+v", was, vow, d, got, want)
	}
}

// holds holds what a voter has, twice: asking changes nothing.
func holds(t *testing.T, v *voter.Voter, m api.Meta, p api.Promise) {
	t.Helper()
	for range 2 {
		if v.Meta() != m || v.Promise() != p {
			t.Fatalf("Meta, Promise = %+v, %+v, not %+v, %+v", v.Meta(), v.Promise(), m, p)
		}
	}
}

// refuses holds that a voter answers an error to a deed, and zero values beside it, and that nothing has changed.
func refuses(t *testing.T, v *voter.Voter, d deed, err api.Errno) {
	t.Helper()
	m, p := v.Meta(), v.Promise()
	does(t, v, d, said{Err: err})
	holds(t, v, m, p)
}

// chance tells a source of numbers without a pattern, the same in every run.
func chance(seed int64) *rand.Rand { return rand.New(rand.NewSource(seed)) }

// one tells one of some.
func one[T any](r *rand.Rand, of ...T) T { return of[r.Intn(len(of))] }

// without tells numbers without some.
func without(all []int, some ...int) []int {
	return slices.DeleteFunc(slices.Clone(all), func(n int) bool { return slices.Contains(some, n) })
}

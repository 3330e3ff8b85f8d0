package voter_test

import (
	"reflect"
	"testing"

	"tandem/api"
	"tandem/voter"
)

// isNumber tells whether a number is from 0 to 2^40.
func isNumber(n int) bool { return n >= 0 && n <= top }

// maybe tells whether a record may be, as the document says it.
func maybe(r api.Record) bool {
	return isNumber(r.Term) && isNumber(r.N) && (r.Set == 1 || r.Set == 2 || r.Set == 3)
}

// newer tells whether a record is newer than another one, as the document says it.
func newer(a, b api.Record) bool { return a.Term > b.Term || a.Term == b.Term && a.N > b.N }

// has tells whether a record that may be has a data node.
func has(r api.Record, node int) bool {
	return r.Set == 3 || r.Set == 1 && node == 0 || r.Set == 2 && node == 1
}

// may tells whether a data node may become primary, by its own record and a voter's, as the document says it.
func may(own api.Record, node int, voter api.Record) bool {
	return has(own, node) && (newer(own, voter) || has(voter, node))
}

// bars tells whether a promise bars a node now, as the document says it, of times.
func bars(p api.Promise, node, now int) bool {
	return p.To != none && now < p.From+promised && p.To != node
}

// mayMeta tells whether a meta may be, as the document says it.
func mayMeta(m api.Meta) bool {
	return isNumber(m.Term) && m.Vote >= -1 && m.Vote <= 1 && maybe(m.Rec) && m.Rec.Term <= m.Term && isNumber(m.Boot)
}

// words is a voter as the document's words say it.
type words struct {
	node    int
	meta    api.Meta
	promise api.Promise
}

// right tells whether a message is right for a call of a kind.
func (w *words) right(kind int, m api.Msg) bool {
	if m.Kind != kind || m.From < 0 || m.From > 1 || m.From == w.node || !isNumber(m.Term) {
		return false
	}
	return kind == api.MsgBeat || maybe(m.Rec) && m.Rec.Term <= m.Term
}

// refused tells whether a vote is refused: the four reasons of the document.
func (w *words) refused(m api.Msg, now int) bool {
	below := m.Term < w.meta.Term
	barred := bars(w.promise, m.From, now)
	voted := w.meta.Vote != none && w.meta.Vote != m.From && m.Term == w.meta.Term
	return below || barred || voted || !may(m.Rec, m.From, w.meta.Rec)
}

func (w *words) ask(m api.Msg, now int) said {
	if !w.right(api.MsgAsk, m) || !isNumber(now) {
		return said{Err: api.ErrArg}
	}
	was, ok := w.meta, !w.refused(m, now)
	if ok {
		w.meta.Term = m.Term
		w.meta.Vote = m.From
		w.promise = to(m.From, now)
	}
	return said{M: api.Msg{Kind: 2, From: w.node, Term: w.meta.Term, Stamp: m.Stamp, Rec: w.meta.Rec, OK: ok}, Changed: was != w.meta}
}

// follow lets the voter be in a primary's term, if that is greater.
func (w *words) follow(m api.Msg) {
	if m.Term > w.meta.Term {
		w.meta.Term = m.Term
		w.meta.Vote = m.From
	}
}

func (w *words) beat(m api.Msg, now int) said {
	if !w.right(api.MsgBeat, m) || !isNumber(now) {
		return said{Err: api.ErrArg}
	}
	was, ok := w.meta, false
	if m.Term >= w.meta.Term {
		w.follow(m)
		w.promise = to(m.From, now)
		ok = true
	}
	return said{M: api.Msg{Kind: 4, From: w.node, Term: w.meta.Term, Stamp: m.Stamp, OK: ok}, Changed: was != w.meta}
}

func (w *words) note(m api.Msg) said {
	if !w.right(api.MsgNote, m) {
		return said{Err: api.ErrArg}
	}
	was, ok := w.meta, false
	if m.Term >= w.meta.Term {
		w.follow(m)
		if newer(m.Rec, w.meta.Rec) {
			w.meta.Rec = m.Rec
		}
		ok = w.meta.Rec == m.Rec
	}
	return said{M: api.Msg{Kind: 6, From: w.node, Term: w.meta.Term, Rec: w.meta.Rec, OK: ok}, Changed: was != w.meta}
}

func (w *words) hear(term int) said {
	if !isNumber(term) {
		return said{Err: api.ErrArg}
	}
	if term <= w.meta.Term {
		return said{}
	}
	w.meta.Term, w.meta.Vote = term, none
	return said{Changed: true}
}

func (w *words) stand(now int) said {
	if !isNumber(now) {
		return said{Err: api.ErrArg}
	}
	if w.node == witness || !has(w.meta.Rec, w.node) || bars(w.promise, w.node, now) || w.meta.Term == top {
		return said{Err: api.ErrState}
	}
	w.meta.Term++
	w.meta.Vote = w.node
	w.promise = to(w.node, now)
	return said{Term: w.meta.Term}
}

func (w *words) renew(now int) said {
	if !isNumber(now) {
		return said{Err: api.ErrArg}
	}
	if w.promise.To != w.node {
		return said{Err: api.ErrState}
	}
	w.promise.From = now
	return said{}
}

func (w *words) yield() said {
	if w.promise.To != w.node {
		return said{Err: api.ErrState}
	}
	w.promise = to(none, 0)
	return said{}
}

func (w *words) set(r api.Record) said {
	if !maybe(r) || r.Term > w.meta.Term {
		return said{Err: api.ErrArg}
	}
	if !newer(r, w.meta.Rec) {
		return said{Err: api.ErrState}
	}
	w.meta.Rec = r
	return said{}
}

// do does a deed as the words say it.
func (w *words) do(d deed) said {
	switch d.call {
	case "Ask":
		return w.ask(d.m, d.n)
	case "Beat":
		return w.beat(d.m, d.n)
	case "Note":
		return w.note(d.m)
	case "Hear":
		return w.hear(d.n)
	case "Stand":
		return w.stand(d.n)
	case "Renew":
		return w.renew(d.n)
	case "Yield":
		return w.yield()
	case "Set":
		return w.set(d.r)
	}
	panic(d.call)
}

// pair is a voter beside its words.
type pair struct {
	t *testing.T
	v *voter.Voter
	w words
}

// begun tells a voter beside its words.
func begun(t *testing.T, node int, m api.Meta, now int) *pair {
	t.Helper()
	return &pair{t, made(t, node, m, now), words{node, m, to(anyone, now)}}
}

// do does a deed to both, and holds that they answer and have the same. It tells what they answer.
func (p *pair) do(d deed) said {
	p.t.Helper()
	was := p.w
	want := p.w.do(d)
	if got := d.to(p.v); !reflect.DeepEqual(got, want) {
		p.t.Fatalf("at %+v: %+v\nanswers %+v\nand not %+v", was, d, got, want)
	}
	if p.v.Meta() != p.w.meta || p.v.Promise() != p.w.promise {
		p.t.Fatalf("at %+v: %+v\nleaves %+v, %+v\nand not %+v", was, d, p.v.Meta(), p.v.Promise(), p.w)
	}
	return want
}

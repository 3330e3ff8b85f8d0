package voter_test

import (
	"math"
	"math/rand"
	"testing"

	"tandem/api"
)

// walk is a voter beside its words, at a clock that goes on, among calls without a pattern.
type walk struct {
	*pair
	r   *rand.Rand
	now int
}

// opened begins a walk.
func opened(t *testing.T, seed int64, node int) *walk {
	t.Helper()
	r := chance(seed)
	w := &walk{r: r, now: one(r, 0, 100, r.Intn(top/2))}
	term := one(r, 0, 4, top-9, r.Intn(top-1000))
	m := api.Meta{Term: term, Vote: one(r, none, 0, 1), Rec: rec(max(term-r.Intn(3), 0), r.Intn(3), 1+r.Intn(3)), Boot: r.Intn(9)}
	w.pair = begun(t, node, m, w.now)
	return w
}

// term tells a term about the voter's, most of the time.
func (w *walk) term() int {
	near := w.w.meta.Term + one(w.r, -2, -1, 0, 0, 0, 1, 1, 2)
	return one(w.r, near, near, near, near, near, near, near, near, w.record().Term, one(w.r, numbers()...))
}

// record tells a record about the voter's, most of the time one that may be.
func (w *walk) record() api.Record {
	is := w.w.meta.Rec
	r := rec(is.Term+one(w.r, -1, 0, 0, 0, 1), is.N+one(w.r, -1, 0, 0, 1), 1+w.r.Intn(3))
	switch w.r.Intn(15) {
	case 0:
		return is
	case 1:
		r.Term = w.w.meta.Term
		r.N = 0
	case 2:
		r.Term = one(w.r, numbers()...)
	case 3:
		r.N = one(w.r, numbers()...)
	case 4:
		r.Set = one(w.r, 0, 4, -1, math.MinInt, 7)
	}
	return r
}

// message tells a message that is for a call, most of the time; a Rec of a message's term, at most, so that it is right.
func (w *walk) message(kind int) api.Msg {
	m := api.Msg{Kind: kind, From: w.r.Intn(2), Term: w.term(), Stamp: one(w.r, 0, w.now, w.r.Intn(5000), -7), Rec: w.record()}
	if w.r.Intn(3) > 0 && m.Rec.Term > m.Term {
		m.Rec.Term = m.Term
	}
	switch w.r.Intn(40) {
	case 0:
		m.Kind = w.r.Intn(13)
	case 1:
		m.From = one(w.r, nodes()...)
	case 2:
		m.Seq, m.Block, m.OK, m.Bits, m.Data = 5, 6, true, 7, []byte{1, 2}
	}
	return m
}

// time tells when the next call is: a bit later, at the end of what was promised, or at any other time.
func (w *walk) time() int {
	switch w.r.Intn(12) {
	case 0:
		return one(w.r, numbers()...)
	case 1:
		w.now = max(w.now, w.w.promise.From+promised-w.r.Intn(2))
	default:
		w.now += one(w.r, 0, 1, 90, 110, w.r.Intn(300))
	}
	w.now = min(w.now, top)
	return w.now
}

// deed tells the next call.
func (w *walk) deed() deed {
	switch w.r.Intn(12) {
	case 0, 1, 2, 3:
		return ask(w.message(api.MsgAsk), w.time())
	case 4, 5:
		return beat(w.message(api.MsgBeat), w.time())
	case 6:
		return note(w.message(api.MsgNote))
	case 7:
		return hear(w.term())
	case 8:
		return stand(w.time())
	case 9:
		return renew(w.time())
	case 10:
		return yield()
	}
	return set(w.record())
}

// step does the next call.
func (w *walk) step() (deed, said) {
	w.t.Helper()
	d := w.deed()
	return d, w.do(d)
}

// tally counts what came of calls.
type tally map[string]int

func (c tally) count(d deed, s said) {
	switch {
	case s.Err != api.OK:
		c[d.call+" is refused as wrong"]++
	case s.M.Kind != 0 && !s.M.OK:
		c[d.call+" is refused"]++
	default:
		c[d.call+" is done"]++
	}
	if s.Changed {
		c[d.call+" changes the meta"]++
	}
}

// holds holds that each kind of outcome came often enough for a walk to say something.
func (c tally) holds(t *testing.T, least int) {
	t.Helper()
	want := []string{"Ask is refused as wrong", "Ask is refused", "Ask is done", "Ask changes the meta", "Beat is refused as wrong", "Beat is refused", "Beat is done", "Beat changes the meta",
		"Note is refused as wrong", "Note is refused", "Note is done", "Note changes the meta", "Hear is refused as wrong", "Hear is done", "Hear changes the meta", "Stand is refused as wrong", "Stand is done",
		"Renew is refused as wrong", "Renew is done", "Yield is refused as wrong", "Yield is done", "Set is refused as wrong", "Set is done"}
	for _, what := range want {
		if c[what] < least {
			t.Errorf("%s %d times", what, c[what])
		}
	}
}

// P18.1 to P18.6: calls without a pattern, beside the document's words.
func TestCallsAsTheWordsSay(t *testing.T) {
	c := tally{}
	for seed := range int64(600) {
		w := opened(t, seed, int(seed%3))
		for range 200 {
			c.count(w.step())
		}
	}
	c.holds(t, 300)
}

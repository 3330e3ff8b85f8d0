package voter_test

import (
	"testing"

	"tandem/api"
	"tandem/voter"
)

// votes tells for whom a voter has voted, by terms.
type votes map[int]int

// gives holds that a voter gives its vote of a term to no second node.
func (all votes) gives(t *testing.T, term, node int) {
	t.Helper()
	if was, there := all[term]; there && was != node {
		t.Fatalf("in the term %d it has voted for %d, and votes for %d", term, was, node)
	}
	all[term] = node
}

// given tells to which node a deed gave the voter's vote.
func given(node int, d deed, s said) (int, bool) {
	switch {
	case d.call == "Ask" && s.Err == api.OK && s.M.OK:
		return d.m.From, true
	case d.call == "Stand" && s.Err == api.OK:
		return node, true
	}
	return none, false
}

// goesOn holds that a meta may follow another one: its Term has not fallen, its Rec is not an older one, and it may be.
func goesOn(t *testing.T, was, is api.Meta) {
	t.Helper()
	if is.Term < was.Term || newer(was.Rec, is.Rec) || !newer(is.Rec, was.Rec) && is.Rec != was.Rec || is.Boot != was.Boot {
		t.Fatalf("%+v goes on as %+v", was, is)
	}
	if !mayMeta(is) || voter.Check(is) != api.OK {
		t.Fatalf("%+v may not be", is)
	}
}

// P18.7, P18.8: of many calls without a pattern, over crashes too, behind which a voter has its meta alone.
func TestVotesOfManyCalls(t *testing.T) {
	votesGiven, barred, crashes := 0, 0, 0
	for seed := range int64(600) {
		w := opened(t, 1000+seed, int(seed%3))
		all := votes{}
		for range 300 {
			was, vow := w.v.Meta(), w.v.Promise()
			d, s := w.step()
			goesOn(t, was, w.v.Meta())
			is := w.v.Meta()
			if is.Vote != none {
				all.gives(t, is.Term, is.Vote)
			}
			whom, yes := given(w.w.node, d, s)
			if yes {
				all.gives(t, is.Term, whom)
				votesGiven++
				if is.Vote != whom || bars(vow, whom, d.n) {
					t.Fatalf("at %+v, %+v: %+v gives its vote", was, vow, d)
				}
			}
			if d.call == "Ask" && s.Err == api.OK && bars(vow, d.m.From, d.n) {
				barred++
			}
			if w.r.Intn(60) == 0 {
				w.pair = begun(t, w.w.node, is, w.now)
				crashes++
			}
		}
	}
	if votesGiven < 5000 || barred < 5000 || crashes < 1000 {
		t.Fatalf("%d votes, %d that were barred, %d crashes", votesGiven, barred, crashes)
	}
}

// P18.8: a promise bars its own voter from giving a vote, beside all metas and records that would let it.
func TestWhileAPromiseBars(t *testing.T) {
	for from := range 2 {
		for _, begin := range []int{0, 777, 1 << 32} {
			v := promises(t, witness, meta(4, none, old), to(1-from, begin))
			for age := range promised {
				does(t, v, ask(asked(from, 5, rec(3, 0, 3)), begin+age), granted(witness, 4, old, false, false))
				does(t, v, ask(asked(from, 4, rec(3, 0, 3)), begin+age), granted(witness, 4, old, false, false))
			}
			holds(t, v, meta(4, none, old), to(1-from, begin))
			does(t, v, ask(asked(from, 5, rec(3, 0, 3)), begin+promised), granted(witness, 5, old, true, true))
			v = promises(t, from, meta(4, none, old), to(1-from, begin))
			for age := range promised {
				refuses(t, v, stand(begin+age), api.ErrState)
			}
			does(t, v, stand(begin+promised), said{Term: 5})
		}
	}
}

// P18.7: all orders in which two candidates ask for the votes of a term, and primaries of it and of the next one are heard of: nobody is voted for beside another one.
func TestVotesInAllOrders(t *testing.T) {
	deeds := []deed{
		ask(asked(0, 5, old), 5000), ask(asked(1, 5, old), 7000), ask(asked(0, 6, old), 9000), ask(asked(1, 6, old), 11000),
		beat(beaten(0, 5), 0), beat(beaten(1, 6), 0), note(noted(1, 5, old)), hear(5), hear(6),
	}
	for vote := none; vote <= 1; vote++ {
		for i := range 9 * 9 * 9 * 9 * 9 {
			p := begun(t, witness, meta(4, vote, old), 100)
			all := votes{}
			for rest := i; rest > 0; rest /= 9 {
				d := deeds[rest%9]
				s := p.do(d)
				is := p.v.Meta()
				if is.Vote != none {
					all.gives(t, is.Term, is.Vote)
				}
				if whom, yes := given(witness, d, s); yes {
					all.gives(t, is.Term, whom)
				}
			}
		}
	}
}

// three is the voters of three nodes, whose clocks go on as one.
type three struct {
	t   *testing.T
	v   [3]*voter.Voter
	won map[int]int // who has won a term: with another node's vote behind its own
	now int
}

// race lets a node stand, and asks the others for their votes of that.
func (n *three) race(node int) {
	n.t.Helper()
	term, err := n.v[node].Stand(n.now)
	if err != api.OK {
		return
	}
	m := asked(node, term, n.v[node].Meta().Rec)
	for i, v := range n.v {
		if i == node {
			continue
		}
		g, _, err := v.Ask(m, n.now)
		if err != api.OK {
			n.t.Fatalf("Ask(%+v, %d) = %v", m, n.now, err)
		}
		if !g.OK {
			n.v[node].Hear(g.Term)
			continue
		}
		if was, there := n.won[term]; there && was != node {
			n.t.Fatalf("%d and %d have won the term %d", was, node, term)
		}
		n.won[term] = node
	}
}

// P18.7 (P5): of three nodes at most one wins a term, with its own vote and another one's, however they stand, crash, and hear of terms.
func TestOneWinnerOfATerm(t *testing.T) {
	wins := 0
	for seed := range int64(200) {
		r := chance(3000 + seed)
		n := &three{t: t, won: map[int]int{}}
		for node := range n.v {
			n.v[node] = made(t, node, meta(0, none, rec(0, 0, 3)), 0)
		}
		for range 200 {
			n.now += one(r, 0, 100, 300, 700)
			node := r.Intn(3)
			switch v := n.v[node]; r.Intn(6) {
			case 0:
				n.v[node] = made(t, node, v.Meta(), n.now)
			case 1:
				v.Yield()
			case 2:
				v.Hear(n.v[r.Intn(3)].Meta().Term)
			default:
				n.race(r.Intn(2))
			}
		}
		wins += len(n.won)
	}
	if wins < 1000 {
		t.Fatalf("%d terms were won", wins)
	}
}

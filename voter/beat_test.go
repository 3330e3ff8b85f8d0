package voter_test

import "testing"

// P18.3: a beat of a term below the voter's is refused: the answer has the voter's own Term, and nothing has changed.
func TestBeatOfATermBelow(t *testing.T) {
	for node := range 3 {
		for _, mine := range []int{1, 5, 1 << 32, top} {
			for vote := none; vote <= 1; vote++ {
				m := meta(mine, vote, rec(0, 3, 3))
				v := made(t, node, m, 100)
				for _, term := range []int{0, mine / 2, mine - 1} {
					for _, now := range []int{0, 100, 1199, 1200, 5000} {
						does(t, v, beat(beaten(other(node), term), now), obeyed(node, mine, false, false))
						holds(t, v, m, to(anyone, 100))
					}
				}
			}
		}
	}
}

// P18.3: a beat of the voter's own term is obeyed: the promise is From's, since now, and the meta stays, whoever has the vote.
func TestBeatOfTheTerm(t *testing.T) {
	for node := range 3 {
		for from := range 2 {
			if from == node {
				continue
			}
			for _, term := range []int{0, 1, 5, top} {
				for vote := none; vote <= 1; vote++ {
					m := meta(term, vote, rec(0, 3, 2))
					v := made(t, node, m, 100)
					for _, now := range []int{0, 150, 1199, 5000, top} {
						does(t, v, beat(beaten(from, term), now), obeyed(node, term, true, false))
						holds(t, v, m, to(from, now))
					}
				}
			}
		}
	}
}

// P18.3: a beat of a greater term is obeyed: Term is it, Vote From, and the promise From's, since now; Rec and Boot stay.
func TestBeatOfATermAbove(t *testing.T) {
	for node := range 3 {
		for from := range 2 {
			if from == node {
				continue
			}
			for _, term := range []int{5, 6, 1 << 32, top} {
				for vote := none; vote <= 1; vote++ {
					v := made(t, node, meta(4, vote, rec(2, 3, 2)), 100)
					does(t, v, beat(beaten(from, term), 700), obeyed(node, term, true, true))
					holds(t, v, meta(term, from, rec(2, 3, 2)), to(from, 700))
				}
			}
		}
	}
}

// P18.3: a beat is obeyed whoever something was promised to, if its Term is not below: another node, the voter's own, or none.
func TestBeatUnderAPromise(t *testing.T) {
	for _, term := range []int{5, 6} {
		is := term == 6
		want := meta(term, 0, old)
		if is {
			want.Vote = 1
		}
		v := promises(t, witness, meta(5, 0, old), to(0, 2000))
		does(t, v, beat(beaten(1, term), 2001), obeyed(witness, term, true, is))
		holds(t, v, want, to(1, 2001))
		v = stood(t, 0, 5, old, 2000)
		does(t, v, beat(beaten(1, term), 2001), obeyed(0, term, true, is))
		holds(t, v, want, to(1, 2001))
		v = yielded(t, 0, 5, old)
		does(t, v, beat(beaten(1, term), 2001), obeyed(0, term, true, is))
		holds(t, v, want, to(1, 2001))
	}
}

// P18.3: what was obeyed goes on as it is obeyed: each beat bars the other node from then on, for 1,100.
func TestBeatsBar(t *testing.T) {
	v := made(t, witness, meta(4, none, old), 0)
	for now := 100; now < 3000; now += 200 {
		does(t, v, beat(beaten(0, 5), now), obeyed(witness, 5, true, now == 100))
		holds(t, v, meta(5, 0, old), to(0, now))
		does(t, v, ask(asked(1, 6, old), now+199), granted(witness, 5, old, false, false))
	}
	does(t, v, ask(asked(1, 6, old), 2900+1099), granted(witness, 5, old, false, false))
	does(t, v, beat(beaten(0, 4), 3900), obeyed(witness, 5, false, false))
	does(t, v, ask(asked(1, 6, old), 2900+1100), granted(witness, 6, old, true, true))
	does(t, v, beat(beaten(0, 5), 4001), obeyed(witness, 6, false, false))
	holds(t, v, meta(6, 1, old), to(1, 4000))
}

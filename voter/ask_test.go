package voter_test

import (
	"testing"

	"tandem/api"
)

// old is the record that voters have here, if no other one is named.
var old = rec(1, 5, 3)

// P18.2: a vote is given, and the voter's whole answer to it: its Term, Vote and promise are the candidate's, its Rec and Boot stay.
func TestAskIsGiven(t *testing.T) {
	for node := range 3 {
		for from := range 2 {
			if from == node {
				continue
			}
			for _, term := range []int{4, 5, 9, 1 << 32, top} {
				v := made(t, node, meta(4, none, old), 100)
				does(t, v, ask(asked(from, term, rec(2, 0, 3)), 1200), granted(node, term, old, true, true))
				holds(t, v, meta(term, from, old), to(from, 1200))
			}
		}
	}
}

// P18.2: refused because m's Term is below the voter's, and for that alone: the answer has the voter's own Term and Rec.
func TestAskOfATermBelow(t *testing.T) {
	for _, mine := range []int{1, 5, 1 << 32, top} {
		for _, vote := range []int{none, 0, 1} {
			for _, term := range []int{0, mine / 2, mine - 1} {
				m := meta(mine, vote, rec(0, 0, 3))
				v := made(t, witness, m, 100)
				does(t, v, ask(asked(1, term, rec(0, 0, 3)), 5000), granted(witness, mine, rec(0, 0, 3), false, false))
				holds(t, v, m, to(anyone, 100))
			}
			v := made(t, witness, meta(mine, none, rec(0, 0, 3)), 100)
			does(t, v, ask(asked(1, mine, rec(0, 0, 3)), 5000), granted(witness, mine, rec(0, 0, 3), true, true))
		}
	}
}

// P18.2: refused because the promise bars m's From, and for that alone: at the last moment at which it does, and no more behind that; the promise to From itself bars it not.
func TestAskUnderAPromise(t *testing.T) {
	for _, since := range []int{0, 1, 100, 1 << 32, top - 1100} {
		for age, free := range map[int]bool{0: false, 1: false, 899: false, 900: false, 1098: false, 1099: false, 1100: true, 1101: true, 2200: true} {
			now := since + age
			if now > top {
				continue
			}
			for _, term := range []int{4, 5, top} {
				v := promises(t, witness, meta(4, none, old), to(0, since))
				want := granted(witness, 4, old, false, false)
				if free {
					want = granted(witness, term, old, true, true)
				}
				does(t, v, ask(asked(1, term, old), now), want)
				if !free {
					holds(t, v, meta(4, none, old), to(0, since))
				}
				v = promises(t, witness, meta(4, none, old), to(0, since))
				does(t, v, ask(asked(0, term, old), now), granted(witness, term, old, true, true))
				holds(t, v, meta(term, 0, old), to(0, now))
			}
		}
	}
}

// P18.2: a promise from a time that is still to come bars as well.
func TestAskAheadOfAPromise(t *testing.T) {
	v := promises(t, witness, meta(4, none, old), to(0, 9000))
	does(t, v, ask(asked(1, 5, old), 0), granted(witness, 4, old, false, false))
	does(t, v, ask(asked(1, 5, old), 8999), granted(witness, 4, old, false, false))
	does(t, v, ask(asked(1, 5, old), 10099), granted(witness, 4, old, false, false))
	does(t, v, ask(asked(1, 5, old), 10100), granted(witness, 5, old, true, true))
}

// P18.2: a node that stood has promised itself: that bars the other one, till its time is over, or it yields.
func TestAskOfWhoStood(t *testing.T) {
	for node := range 2 {
		v := stood(t, node, 5, rec(1, 0, 3), 2000)
		d := func(now int) deed { return ask(asked(1-node, 6, rec(1, 0, 3)), now) }
		does(t, v, d(2000), granted(node, 5, rec(1, 0, 3), false, false))
		does(t, v, d(3099), granted(node, 5, rec(1, 0, 3), false, false))
		holds(t, v, meta(5, node, rec(1, 0, 3)), to(node, 2000))
		does(t, v, d(3100), granted(node, 6, rec(1, 0, 3), true, true))
		v = yielded(t, node, 5, rec(1, 0, 3))
		does(t, v, d(1101), granted(node, 6, rec(1, 0, 3), true, true))
		holds(t, v, meta(6, 1-node, rec(1, 0, 3)), to(1-node, 1101))
	}
}

// P18.2: refused because the vote of that term is another one's, and for that alone; in a greater term it is free again.
func TestAskBehindAVote(t *testing.T) {
	for _, term := range []int{1, 5, 1 << 32, top} {
		for from := range 2 {
			for vote, free := range map[int]bool{none: true, from: true, 1 - from: false} {
				m := meta(term, vote, old)
				v := made(t, witness, m, 100)
				changed := vote == none
				does(t, v, ask(asked(from, term, old), 1200), granted(witness, term, old, free, changed))
				if free {
					holds(t, v, meta(term, from, old), to(from, 1200))
				} else {
					holds(t, v, m, to(anyone, 100))
				}
				if term == top {
					continue
				}
				v = made(t, witness, m, 100)
				does(t, v, ask(asked(from, term+1, old), 1200), granted(witness, term+1, old, true, true))
				holds(t, v, meta(term+1, from, old), to(from, 1200))
			}
		}
	}
}

// P18.2: a data node that stood, and yielded, has given its own vote of that term to itself.
func TestAskBehindItsOwnVote(t *testing.T) {
	for node := range 2 {
		v := yielded(t, node, 5, rec(1, 0, 3))
		does(t, v, ask(asked(1-node, 5, rec(1, 0, 3)), 5000), granted(node, 5, rec(1, 0, 3), false, false))
		holds(t, v, meta(5, node, rec(1, 0, 3)), to(none, 0))
	}
}

// P18.2: a vote that is given anew, to the same node in the same term, renews the promise, and leaves the meta as it was.
func TestAskOnceMore(t *testing.T) {
	v := made(t, witness, meta(4, none, old), 100)
	does(t, v, ask(asked(1, 5, old), 1200), granted(witness, 5, old, true, true))
	for _, now := range []int{1200, 1300, 2299, 5000} {
		does(t, v, ask(asked(1, 5, old), now), granted(witness, 5, old, true, false))
		holds(t, v, meta(5, 1, old), to(1, now))
	}
	does(t, v, ask(asked(1, 6, old), 5001), granted(witness, 6, old, true, true))
}

// P18.2: refused because From may not become primary by the records, and for that alone: by records of m that are newer, the same and older, of each set, beside each set of the voter's.
func TestAskByRecords(t *testing.T) {
	for from := range 2 {
		for set := 1; set <= 3; set++ {
			for mine := 1; mine <= 3; mine++ {
				for _, r := range []api.Record{{Term: 0, N: 9}, {Term: 1, N: 4}, {Term: 1, N: 5}, {Term: 1, N: 6}, {Term: 2, N: 0}, {Term: 5, N: 0}} {
					r.Set = set
					isNewer := r.Term > 1 || r.N == 6
					free := has(r, from) && (isNewer || has(rec(1, 5, mine), from))
					m := meta(5, none, rec(1, 5, mine))
					v := made(t, witness, m, 100)
					does(t, v, ask(asked(from, 5, r), 1200), granted(witness, 5, m.Rec, free, free))
					if free {
						holds(t, v, meta(5, from, m.Rec), to(from, 1200))
					} else {
						holds(t, v, m, to(anyone, 100))
					}
				}
			}
		}
	}
}

// P18.2: a vote that is refused in a greater term leaves the voter in its own.
func TestAskRefusedInAGreaterTerm(t *testing.T) {
	m := meta(5, 1, rec(1, 5, 2))
	v := made(t, witness, m, 100)
	for _, term := range []int{6, 9, top} {
		does(t, v, ask(asked(0, term, rec(1, 5, 3)), 1300), granted(witness, 5, m.Rec, false, false))
		does(t, v, ask(asked(1, term, m.Rec), 1199), granted(witness, 5, m.Rec, false, false))
	}
	holds(t, v, m, to(anyone, 100))
}

// P18.2: all that asking hangs on, together, beside the document's words.
func TestAskAsTheWordsSay(t *testing.T) {
	for node := range 3 {
		for vote := none; vote <= 1; vote++ {
			for i := range 2 * 3 * 3 * 3 * 3 * 3 {
				p := begun(t, node, meta(4, vote, rec(2, 2, 1+i/2%3)), 100)
				if i%2 == 1 {
					p.do(beat(beaten(other(node), 4), 300))
				}
				r := rec(2, 1+i/6%3, 1+i/18%3)
				now := 1199 + i/54%3
				if i%2 == 1 {
					now += 200
				}
				for from := range 2 {
					p.do(ask(asked(from, 3+i/162%3, r), now))
				}
			}
		}
	}
}

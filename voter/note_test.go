package voter_test

import (
	"testing"

	"tandem/api"
)

// P18.4: a note of a term below the voter's is refused, of whatever record: the answer has the voter's own Term and Rec, and nothing has changed.
func TestNoteOfATermBelow(t *testing.T) {
	for node := range 3 {
		for _, mine := range []int{2, 5, 1 << 32, top} {
			for vote := none; vote <= 1; vote++ {
				m := meta(mine, vote, rec(1, 5, 3))
				v := made(t, node, m, 100)
				for _, r := range []api.Record{rec(1, 5, 3), rec(1, 4, 3), rec(1, 6, 3), rec(1, 5, 1), rec(mine-1, 7, 3), rec(0, 0, 3)} {
					does(t, v, note(noted(other(node), mine-1, r)), kept(node, mine, m.Rec, false, false))
					holds(t, v, m, to(anyone, 100))
				}
			}
		}
	}
}

// notes tells records beside one of 2 5 3: whether it is newer than that, and whether it is just that.
func notes() map[api.Record][2]bool {
	return map[api.Record][2]bool{
		rec(2, 5, 3):   {false, true},
		rec(2, 5, 1):   {false, false},
		rec(2, 5, 2):   {false, false},
		rec(2, 4, 3):   {false, false},
		rec(2, 4, 1):   {false, false},
		rec(1, top, 3): {false, false},
		rec(0, 0, 3):   {false, false},
		rec(2, 6, 3):   {true, false},
		rec(2, 6, 1):   {true, false},
		rec(2, top, 2): {true, false},
		rec(3, 0, 3):   {true, false},
		rec(4, 0, 1):   {true, false},
		rec(4, 9, 2):   {true, false},
	}
}

// P18.4: a note of the voter's own term leaves Term and Vote as they are; a newer record is kept from then on; it is answered as kept if the voter has just that record then.
func TestNoteOfTheTerm(t *testing.T) {
	for node := range 3 {
		for vote := none; vote <= 1; vote++ {
			for r, is := range notes() {
				m := meta(4, vote, rec(2, 5, 3))
				v := made(t, node, m, 100)
				want := m
				if is[0] {
					want.Rec = r
				}
				does(t, v, note(noted(other(node), 4, r)), kept(node, 4, want.Rec, is[0] || is[1], is[0]))
				holds(t, v, want, to(anyone, 100))
			}
		}
	}
}

// P18.4: a note of a greater term lets Term be it, and Vote From, of whatever record.
func TestNoteOfATermAbove(t *testing.T) {
	for node := range 3 {
		for from := range 2 {
			if from == node {
				continue
			}
			for _, term := range []int{5, 6, 1 << 32, top} {
				for vote := none; vote <= 1; vote++ {
					for r, is := range notes() {
						v := made(t, node, meta(4, vote, rec(2, 5, 3)), 100)
						want := meta(term, from, rec(2, 5, 3))
						if is[0] {
							want.Rec = r
						}
						does(t, v, note(noted(from, term, r)), kept(node, term, want.Rec, is[0] || is[1], true))
						holds(t, v, want, to(anyone, 100))
					}
				}
			}
		}
	}
}

// P18.4: a record of the message's own term is kept, too, at all terms; once more it is kept already, and nothing changes.
func TestNoteOnceMore(t *testing.T) {
	for _, term := range []int{5, 6, top} {
		v := made(t, witness, meta(5, 1, rec(5, 0, 3)), 100)
		r := rec(term, 1, 1)
		does(t, v, note(noted(0, term, r)), kept(witness, term, r, true, true))
		vote := 1
		if term > 5 {
			vote = 0
		}
		for range 3 {
			does(t, v, note(noted(0, term, r)), kept(witness, term, r, true, false))
			holds(t, v, meta(term, vote, r), to(anyone, 100))
		}
		does(t, v, note(noted(0, term, rec(term, 1, 3))), kept(witness, term, r, false, false))
		does(t, v, note(noted(0, term, rec(term, 0, 3))), kept(witness, term, r, false, false))
		does(t, v, note(noted(0, term-1, rec(term-1, 9, 1))), kept(witness, term, r, false, false))
		holds(t, v, meta(term, vote, r), to(anyone, 100))
	}
}

// P18.4: a note asks nobody's promise, and makes none.
func TestNoteLeavesThePromise(t *testing.T) {
	v := promises(t, witness, meta(4, none, old), to(0, 1000))
	does(t, v, note(noted(1, 4, rec(4, 0, 2))), kept(witness, 4, rec(4, 0, 2), true, true))
	does(t, v, note(noted(1, 6, rec(4, 0, 2))), kept(witness, 6, rec(4, 0, 2), true, true))
	holds(t, v, meta(6, 1, rec(4, 0, 2)), to(0, 1000))
	v = stood(t, 0, 5, rec(1, 0, 3), 2000)
	does(t, v, note(noted(1, 6, rec(6, 0, 2))), kept(0, 6, rec(6, 0, 2), true, true))
	holds(t, v, meta(6, 1, rec(6, 0, 2)), to(0, 2000))
	v = yielded(t, 1, 5, rec(1, 0, 3))
	does(t, v, note(noted(0, 6, rec(6, 0, 1))), kept(1, 6, rec(6, 0, 1), true, true))
	holds(t, v, meta(6, 0, rec(6, 0, 1)), to(none, 0))
}

// P18.4: a record that was kept tells who may be voted for from then on.
func TestNoteTellsWhoMayBeVotedFor(t *testing.T) {
	for from := range 2 {
		alone, ours := rec(4, 0, 2-from), rec(4, 1, 3)
		v := made(t, witness, meta(4, none, old), 100)
		does(t, v, note(noted(1-from, 4, alone)), kept(witness, 4, alone, true, true))
		does(t, v, ask(asked(from, 5, old), 2000), granted(witness, 4, alone, false, false))
		does(t, v, note(noted(1-from, 4, ours)), kept(witness, 4, ours, true, true))
		does(t, v, ask(asked(from, 5, old), 2000), granted(witness, 5, ours, true, true))
	}
}

package voter_test

import (
	"testing"

	"tandem/api"
)

// rightly tells the deeds with a message that is right, of a data node in a term.
func rightly(from, term int, r api.Record) []deed {
	return []deed{ask(asked(from, term, r), 2000), beat(beaten(from, term), 2000), note(noted(from, term, r))}
}

// with tells a deed whose message has been changed.
func (d deed) with(change func(*api.Msg)) deed {
	change(&d.m)
	return d
}

// P18.2 to P18.4: each call hears just messages of its own kind.
func TestMessagesOfOtherKinds(t *testing.T) {
	for node := range 3 {
		v := made(t, node, meta(4, none, rec(1, 0, 3)), 100)
		for _, d := range rightly(other(node), 5, rec(1, 0, 3)) {
			for _, kind := range append(numbers(), 3, 4, 5, 6, 7, 8, 9, 10, 11, 12, 0x101) {
				if kind != d.m.Kind {
					refuses(t, v, d.with(func(m *api.Msg) { m.Kind = kind }), api.ErrArg)
				}
			}
		}
	}
}

// P18.2 to P18.4: a message is of the node 0 or 1, and not of the voter's own.
func TestMessagesOfOtherNodes(t *testing.T) {
	for node := range 3 {
		for _, d := range rightly(0, 5, rec(1, 0, 3)) {
			for _, from := range nodes() {
				v := made(t, node, meta(4, none, rec(1, 0, 3)), 100)
				sent := d.with(func(m *api.Msg) { m.From = from })
				if from != 0 && from != 1 || from == node {
					refuses(t, v, sent, api.ErrArg)
					continue
				}
				if s := sent.to(v); s.Err != api.OK || !s.M.OK {
					t.Fatalf("node %d: %+v answers %+v", node, sent, s)
				}
			}
		}
	}
}

// P18.2 to P18.4: a message's Term is from 0 to 2^40; one that is right and too small is refused with an answer, not with an error.
func TestMessagesOfOtherTerms(t *testing.T) {
	for _, term := range numbers() {
		for i := range 3 {
			v := made(t, witness, meta(1, none, rec(0, 0, 3)), 100)
			d := rightly(1, term, rec(0, 0, 3))[i]
			if term < 0 || term > 1<<40 {
				refuses(t, v, d, api.ErrArg)
				continue
			}
			if s := d.to(v); s.Err != api.OK || s.M.OK != (term >= 1) || s.M.Term != max(term, 1) {
				t.Fatalf("%+v answers %+v", d, s)
			}
		}
	}
}

// P18.2, P18.4: a Rec of Ask and Note has to be one that may be; Beat has none, and looks at none.
func TestMessagesOfOtherRecords(t *testing.T) {
	for _, term := range []int{5, 9, top} {
		v := made(t, witness, meta(5, none, rec(1, 0, 3)), 100)
		for _, bad := range badRecs(5) {
			refuses(t, v, ask(asked(1, term, bad), 2000), api.ErrArg)
			refuses(t, v, note(noted(1, term, bad)), api.ErrArg)
		}
	}
	for _, bad := range append(badRecs(5), rec(6, 0, 3)) {
		v := made(t, witness, meta(5, none, rec(1, 0, 3)), 100)
		does(t, v, beat(beaten(0, 5), 2000).with(func(m *api.Msg) { m.Rec = bad }), obeyed(witness, 5, true, false))
		holds(t, v, meta(5, none, rec(1, 0, 3)), to(0, 2000))
	}
}

// P18.2, P18.4: a Rec's Term is at most its message's, whatever the voter's is.
func TestMessagesOfRecordsAhead(t *testing.T) {
	for _, mine := range []int{0, 3, 6, 7, top} {
		for _, term := range []int{0, 3, 5, 6, top - 1} {
			r := rec(0, 0, 3)
			v := made(t, witness, meta(mine, none, r), 100)
			for _, above := range []int{term + 1, term + 2, top} {
				if above > term {
					refuses(t, v, ask(asked(0, term, rec(above, 0, 3)), 2000), api.ErrArg)
					refuses(t, v, note(noted(0, term, rec(above, 0, 3))), api.ErrArg)
				}
			}
			give := term >= mine
			does(t, v, ask(asked(0, term, rec(term, 1, 3)), 2000), granted(witness, max(mine, term), r, give, give))
			if give {
				r = rec(term, 1, 3)
			}
			does(t, v, note(noted(0, term, rec(term, 1, 3))), kept(witness, max(mine, term), r, give, give))
		}
	}
}

// P18.2, P18.3: now is a time; Note is told none.
func TestMessagesAtOtherTimes(t *testing.T) {
	for _, now := range numbers() {
		v := made(t, witness, meta(4, none, rec(1, 0, 3)), 100)
		if now < 0 || now > 1<<40 {
			refuses(t, v, ask(asked(1, 5, rec(1, 0, 3)), now), api.ErrArg)
			refuses(t, v, ask(asked(1, 3, rec(1, 0, 3)), now), api.ErrArg)
			refuses(t, v, beat(beaten(1, 5), now), api.ErrArg)
			refuses(t, v, beat(beaten(1, 3), now), api.ErrArg)
			continue
		}
		does(t, v, beat(beaten(1, 5), now), obeyed(witness, 5, true, true))
		does(t, v, ask(asked(1, 6, rec(1, 0, 3)), now), granted(witness, 6, rec(1, 0, 3), true, true))
		holds(t, v, meta(6, 1, rec(1, 0, 3)), to(1, now))
	}
}

// P18.2 to P18.4: nothing else of a message is looked at: its Stamp is told again as it is, what its kind has not is not told, nor changed.
func TestMessagesOfOtherFields(t *testing.T) {
	for _, n := range numbers() {
		for i := range 3 {
			v := made(t, witness, meta(4, none, rec(1, 0, 3)), 100)
			d, plain := rightly(1, 5, rec(1, 1, 3))[i], rightly(1, 5, rec(1, 1, 3))[i]
			data := []byte{1, 2, 3, 4, 5}
			d.m.Stamp, d.m.Seq, d.m.Block, d.m.OK, d.m.Bits, d.m.Data = n, n, n, true, uint64(n), data[:3]
			want := plain.to(made(t, witness, meta(4, none, rec(1, 0, 3)), 100))
			if d.call != "Note" {
				want.M.Stamp = n
			}
			does(t, v, d, want)
			if string(data) != "\x01\x02\x03\x04\x05" {
				t.Fatalf("%s changes what it is handed: %v", d.call, data)
			}
		}
	}
}

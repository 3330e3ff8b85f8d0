package voter_test

import (
	"reflect"
	"testing"

	"tandem/api"
	"tandem/voter"
)

// allDeeds tells deeds of each call: with what is right, and with what is not.
func allDeeds() []deed {
	all := []deed{yield(), set(rec(4, 1, 3)), set(rec(9, 0, 3)), set(rec(1, 0, 0)), set(api.Record{})}
	for _, n := range numbers() {
		all = append(all, hear(n), stand(n), renew(n))
		all = append(all, ask(asked(1, 5, rec(1, 0, 3)), n), ask(asked(n, 5, rec(1, 0, 3)), 2000), ask(asked(1, n, rec(0, 0, 3)), 2000), ask(api.Msg{}, n))
		all = append(all, beat(beaten(1, 5), n), beat(beaten(n, 5), 2000), beat(beaten(1, n), 2000), beat(api.Msg{}, n))
		all = append(all, note(noted(1, 5, rec(1, 0, 3))), note(noted(n, 5, rec(1, 0, 3))), note(noted(1, n, rec(0, 0, 3))), note(noted(1, 5, rec(1, n, 3))))
	}
	return all
}

// Rule 5: methods of a voter that is nil, or that New did not make, answer ErrNil, and zero values else, ahead of all other errors.
func TestVotersThatNobodyMade(t *testing.T) {
	copied := *stood(t, 0, 5, old, 2000)
	another := *made(t, witness, meta(4, none, old), 100)
	moved := made(t, 0, meta(7, 1, old), 100)
	*moved = another
	for what, v := range map[string]*voter.Voter{"nil": nil, "zero": {}, "new": new(voter.Voter), "copied": &copied, "copied over another one": moved} {
		t.Run(what, func(t *testing.T) {
			for range 2 {
				holds(t, v, api.Meta{}, api.Promise{})
				for _, d := range allDeeds() {
					refuses(t, v, d, api.ErrNil)
				}
			}
		})
	}
}

// Rule 5: a voter goes on as it was though a copy of it was asked.
func TestACopyLeavesTheVoter(t *testing.T) {
	v := stood(t, 0, 5, old, 2000)
	copied := *v
	for _, d := range allDeeds() {
		d.to(&copied)
	}
	holds(t, v, meta(5, 0, old), to(0, 2000))
	does(t, v, renew(2100), said{})
	holds(t, v, meta(5, 0, old), to(0, 2100))
}

// Rules 2 and 3: beside an error there is nothing, and it leaves the voter as it was.
func TestErrorsLeaveTheVoter(t *testing.T) {
	for _, d := range allDeeds() {
		for _, v := range []*voter.Voter{stood(t, 0, 5, old, 2000), yielded(t, 0, top, old), made(t, witness, meta(top, 0, old), 100)} {
			m, p := v.Meta(), v.Promise()
			s := d.to(v)
			if s.Err == api.OK {
				continue
			}
			if s.Err != api.ErrArg && s.Err != api.ErrState || !reflect.DeepEqual(s, said{Err: s.Err}) {
				t.Fatalf("%+v answers %+v", d, s)
			}
			holds(t, v, m, p)
		}
	}
}

// Rule 4: what was handed in, and what was told, is the voter's no more: neither hears of the other one's changes.
func TestAnswersAreNew(t *testing.T) {
	v := made(t, witness, meta(4, none, old), 100)
	data := []byte{1, 2, 3, 4}
	m := asked(1, 5, old)
	m.Data = data[:2]
	first, _, _ := v.Ask(m, 2000)
	m.Rec.Set, m.From, data[0] = 1, 0, 9
	if first.Data != nil || first.Rec != old {
		t.Fatalf("the answer hears of changes of the message: %+v", first)
	}
	first.Rec.Set, first.Term = 2, 77
	holds(t, v, meta(5, 1, old), to(1, 2000))
	if string(data) != "\x09\x02\x03\x04" {
		t.Fatal("Ask changes what it is handed:", data)
	}
}

// P1: the same is told of the same calls, whoever else has voters meanwhile.
func TestTheSameOfTheSame(t *testing.T) {
	for range 8 {
		t.Run("", func(t *testing.T) {
			t.Parallel()
			w := opened(t, 99, witness)
			for range 400 {
				w.step()
			}
		})
	}
}

package voter_test

import (
	"math"
	"testing"

	"tandem/api"
	"tandem/voter"
)

// P18.5: of a term above the voter's Term is it, and Vote None; of one below, or the same, nothing changes.
func TestHearOfTerms(t *testing.T) {
	for node := range 3 {
		for _, mine := range []int{0, 1, 5, 1 << 32, top - 1, top} {
			for vote := none; vote <= 1; vote++ {
				for _, term := range []int{0, 1, mine - 2, mine - 1, mine, mine + 1, mine + 2, 1 << 33, top - 1, top} {
					if term < 0 || term > top {
						continue
					}
					m := meta(mine, vote, rec(0, 8, 2))
					v := made(t, node, m, 100)
					if term <= mine {
						does(t, v, hear(term), said{})
						holds(t, v, m, to(anyone, 100))
						continue
					}
					does(t, v, hear(term), said{Changed: true})
					holds(t, v, meta(term, none, m.Rec), to(anyone, 100))
					does(t, v, hear(term), said{})
					holds(t, v, meta(term, none, m.Rec), to(anyone, 100))
				}
			}
		}
	}
}

// P18.5: what is no term is refused.
func TestHearOfNoTerm(t *testing.T) {
	for _, mine := range []int{0, 5, top} {
		v := made(t, witness, meta(mine, 1, rec(0, 0, 3)), 100)
		for _, term := range []int{math.MinInt, -top, -2, -1, top + 1, top + 2, 1 << 62, math.MaxInt} {
			refuses(t, v, hear(term), api.ErrArg)
		}
	}
}

// P18.5: to hear of a term leaves the promise, whosever it is.
func TestHearLeavesThePromise(t *testing.T) {
	v := promises(t, witness, meta(4, 0, old), to(0, 1000))
	does(t, v, hear(5), said{Changed: true})
	holds(t, v, meta(5, none, old), to(0, 1000))
	v = stood(t, 1, 5, rec(1, 0, 3), 2000)
	does(t, v, hear(6), said{Changed: true})
	holds(t, v, meta(6, none, rec(1, 0, 3)), to(1, 2000))
	does(t, v, renew(2100), said{})
	does(t, v, yield(), said{})
	does(t, v, hear(7), said{Changed: true})
	holds(t, v, meta(7, none, rec(1, 0, 3)), to(none, 0))
}

// P18.6: who stands has a term of its own, with its vote, and its promise, since now; Rec and Boot stay.
func TestStand(t *testing.T) {
	for node := range 2 {
		for _, term := range []int{1, 5, 1 << 32, top - 1} {
			for vote := none; vote <= 1; vote++ {
				for _, set := range []int{1 + node, 3} {
					r := rec(1, 5, set)
					v := made(t, node, meta(term, vote, r), 100)
					does(t, v, stand(1200), said{Term: term + 1})
					holds(t, v, meta(term+1, node, r), to(node, 1200))
				}
			}
		}
	}
	v := made(t, 1, meta(0, none, rec(0, 0, 3)), 100)
	does(t, v, stand(top), said{Term: 1})
	holds(t, v, meta(1, 1, rec(0, 0, 3)), to(1, top))
}

// P18.6: the witness does not stand, whatever it has.
func TestStandOfTheWitness(t *testing.T) {
	for set := 1; set <= 3; set++ {
		v := made(t, witness, meta(4, none, rec(1, 0, set)), 100)
		for _, now := range []int{0, 1199, 1200, 5000, top} {
			refuses(t, v, stand(now), api.ErrState)
		}
	}
}

// P18.6: a node does not stand that its own Rec has not; when a newer one has it, it does.
func TestStandByTheRecord(t *testing.T) {
	for node := range 2 {
		v := made(t, node, meta(4, none, rec(1, 0, 2-node)), 100)
		refuses(t, v, stand(5000), api.ErrState)
		does(t, v, set(rec(1, 1, 3)), said{})
		does(t, v, stand(5000), said{Term: 5})
		does(t, v, set(rec(1, 2, 2-node)), said{})
		refuses(t, v, stand(5001), api.ErrState)
		does(t, v, set(rec(1, 3, 1+node)), said{})
		does(t, v, stand(5001), said{Term: 6})
		holds(t, v, meta(6, node, rec(1, 3, 1+node)), to(node, 5001))
	}
}

// P18.6: a promise to another node bars from standing, till its time is over; one to itself does not, nor does none.
func TestStandUnderAPromise(t *testing.T) {
	for node := range 2 {
		for age, free := range map[int]bool{0: false, 1: false, 900: false, 1099: false, 1100: true, 1101: true, 5000: true} {
			v := promises(t, node, meta(4, none, old), to(1-node, 3000))
			if free {
				does(t, v, stand(3000+age), said{Term: 5})
				holds(t, v, meta(5, node, old), to(node, 3000+age))
			} else {
				refuses(t, v, stand(3000+age), api.ErrState)
			}
		}
		v := stood(t, node, 5, old, 2000)
		for i, now := range []int{2000, 2001, 3099, 3100, 1500, 9000} {
			does(t, v, stand(now), said{Term: 6 + i})
			holds(t, v, meta(6+i, node, old), to(node, now))
		}
		does(t, yielded(t, node, 5, old), stand(1101), said{Term: 6})
	}
}

// P18.6: there is no term behind 2^40.
func TestStandAtTheLastTerm(t *testing.T) {
	for node := range 2 {
		for vote := none; vote <= 1; vote++ {
			refuses(t, made(t, node, meta(top, vote, old), 100), stand(5000), api.ErrState)
			v := made(t, node, meta(top-1, vote, old), 100)
			does(t, v, stand(5000), said{Term: top})
			refuses(t, v, stand(5001), api.ErrState)
			holds(t, v, meta(top, node, old), to(node, 5000))
			does(t, v, renew(5002), said{})
		}
	}
}

// P18.6: who stands, and who renews, does so at a time; that it is none goes ahead of all that bars them.
func TestStandAndRenewAtNoTime(t *testing.T) {
	for _, now := range numbers() {
		if isNumber(now) {
			v := yielded(t, 0, 5, old)
			does(t, v, stand(now), said{Term: 6})
			does(t, v, renew(now), said{})
			holds(t, v, meta(6, 0, old), to(0, now))
			continue
		}
		for _, v := range []*voter.Voter{
			made(t, 0, meta(4, none, old), 100),
			made(t, 1, meta(4, none, rec(1, 0, 1)), 100),
			made(t, witness, meta(4, none, old), 100),
			made(t, 0, meta(top, 0, old), 100),
			promises(t, 0, meta(4, 0, old), to(1, 500)),
			stood(t, 1, 5, old, 2000),
			yielded(t, 1, 5, old),
		} {
			refuses(t, v, stand(now), api.ErrArg)
			refuses(t, v, renew(now), api.ErrArg)
		}
	}
}

// P18.6: just a promise of the node's own is renewed, and given up: not None's, not Anyone's, not another one's.
func TestRenewAndYieldOfOthers(t *testing.T) {
	all := []*voter.Voter{yielded(t, 0, 5, old), yielded(t, 1, 5, old), promises(t, 0, meta(4, 0, old), to(1, 500)), promises(t, 1, meta(4, 1, old), to(0, 500))}
	for node := range 3 {
		all = append(all, made(t, node, meta(4, none, old), 100))
	}
	for to := range 2 {
		all = append(all, promises(t, witness, meta(4, to, old), api.Promise{To: to, From: 500}))
	}
	for _, v := range all {
		for _, now := range []int{0, 100, 500, 1199, 1200, 5000, top} {
			refuses(t, v, renew(now), api.ErrState)
			refuses(t, v, yield(), api.ErrState)
		}
	}
}

// P18.6: a promise of the node's own is since now when it is renewed, also when its time was over, and the meta stays.
func TestRenew(t *testing.T) {
	for node := range 2 {
		v := stood(t, node, 5, old, 2000)
		for _, now := range []int{2000, 2100, 3199, 4299, 9000, 8000, 0, top} {
			does(t, v, renew(now), said{})
			holds(t, v, meta(5, node, old), to(node, now))
		}
		does(t, v, renew(3000), said{})
		does(t, v, ask(asked(1-node, 6, old), 4099), granted(node, 5, old, false, false))
		does(t, v, ask(asked(1-node, 6, old), 4100), granted(node, 6, old, true, true))
		refuses(t, v, renew(4101), api.ErrState)
	}
}

// P18.6: a promise of the node's own that is given up bars nobody any more, also when its time was over; the meta stays.
func TestYield(t *testing.T) {
	for node := range 2 {
		for _, now := range []int{1100, 2000, top} {
			v := stood(t, node, 5, old, now)
			does(t, v, yield(), said{})
			holds(t, v, meta(5, node, old), to(none, 0))
			refuses(t, v, yield(), api.ErrState)
			does(t, v, ask(asked(1-node, 6, old), now), granted(node, 6, old, true, true))
			refuses(t, v, yield(), api.ErrState)
		}
	}
}

// P18.6: just a newer record is set, of a term that is not above the voter's; all else stays.
func TestSet(t *testing.T) {
	for node := range 3 {
		for r, is := range notes() {
			for vote := none; vote <= 1; vote++ {
				m := meta(4, vote, rec(2, 5, 3))
				v := made(t, node, m, 100)
				if !is[0] {
					refuses(t, v, set(r), api.ErrState)
					continue
				}
				does(t, v, set(r), said{})
				m.Rec = r
				holds(t, v, m, to(anyone, 100))
				refuses(t, v, set(r), api.ErrState)
				refuses(t, v, set(rec(2, 5, 3)), api.ErrState)
			}
		}
	}
}

// P18.6: a record that may not be, or of a term above the voter's, is refused, whether it is newer or not.
func TestSetOfWhatMayNotBe(t *testing.T) {
	for _, term := range []int{5, 1 << 32, top} {
		for _, mine := range []api.Record{rec(0, 0, 3), rec(5, 0, 3), rec(5, top, 1)} {
			v := made(t, witness, meta(term, 1, mine), 100)
			for _, bad := range badRecs(4) {
				refuses(t, v, set(bad), api.ErrArg)
			}
			for _, bad := range badRecs(term) {
				refuses(t, v, set(bad), api.ErrArg)
			}
			for _, above := range []int{term + 1, term + 2, top + 1, math.MaxInt} {
				refuses(t, v, set(rec(above, 0, 3)), api.ErrArg)
			}
		}
	}
	v := made(t, 0, meta(5, 1, rec(1, 0, 3)), 100)
	does(t, v, set(rec(5, 0, 1)), said{})
	does(t, v, set(rec(5, top, 2)), said{})
	refuses(t, v, set(rec(6, 0, 3)), api.ErrArg)
	does(t, v, hear(6), said{Changed: true})
	does(t, v, set(rec(6, 0, 3)), said{})
	holds(t, v, meta(6, none, rec(6, 0, 3)), to(anyone, 100))
}

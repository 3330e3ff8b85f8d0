package voter_test

import (
	"slices"
	"testing"

	"tandem/api"
	"tandem/voter"
)

// checks holds what Check tells of a meta, and whether New takes it, of each node and of what is none.
func checks(t *testing.T, m api.Meta, want api.Errno) {
	t.Helper()
	if got := voter.Check(m); got != want {
		t.Fatalf("Check(%+v) = %v, not %v", m, got, want)
	}
	for node := -1; node <= 3; node++ {
		if want == api.OK && node >= 0 && node <= 2 {
			made(t, node, m, 5)
		} else {
			isNone(t, node, m, 5)
		}
	}
}

// isNone holds that New refuses what it is handed.
func isNone(t *testing.T, node int, m api.Meta, now int) {
	t.Helper()
	if v, err := voter.New(node, m, now); v != nil || err != api.ErrArg {
		t.Fatalf("New(%d, %+v, %d) = %v, %v, not nil, ErrArg", node, m, now, v, err)
	}
}

// P18.1: a Term may be just from 0 to 2^40, and a Boot, whatever the other one is.
func TestCheckByTermAndBoot(t *testing.T) {
	for _, n := range numbers() {
		want := api.ErrArg
		if n >= 0 && n <= 1<<40 {
			want = api.OK
		}
		for _, ok := range []int{0, 1, 77, top} {
			checks(t, api.Meta{Term: n, Vote: none, Rec: rec(0, 0, 3), Boot: ok}, want)
			checks(t, api.Meta{Term: ok, Vote: none, Rec: rec(0, 0, 3), Boot: n}, want)
		}
	}
}

// P18.1: a Vote may be just None, 0 or 1: the witness is voted for by nobody, and Anyone is no vote.
func TestCheckByVote(t *testing.T) {
	for _, vote := range nodes() {
		want := api.ErrArg
		if vote == -1 || vote == 0 || vote == 1 {
			want = api.OK
		}
		for _, term := range []int{0, 5, top} {
			checks(t, meta(term, vote, rec(0, 0, 3)), want)
			checks(t, meta(term, vote, rec(term, 9, 1)), want)
		}
	}
}

// P18.1: a Rec has to be one that may be, by each of its parts.
func TestCheckByRecord(t *testing.T) {
	for _, term := range []int{0, 1, 5, top} {
		for _, bad := range badRecs(term) {
			checks(t, meta(term, none, bad), api.ErrArg)
			checks(t, meta(top, 1, bad), api.ErrArg)
		}
		for _, n := range []int{0, 1, top - 1, top} {
			for set := 1; set <= 3; set++ {
				checks(t, meta(term, 0, rec(term, n, set)), api.OK)
				checks(t, meta(top, 0, rec(term, n, set)), api.OK)
			}
		}
	}
}

// P18.1: a Rec's Term is at most the meta's.
func TestCheckByTheRecordsTerm(t *testing.T) {
	for _, term := range []int{0, 1, 2, 5, 1 << 32, top - 1} {
		checks(t, meta(term, none, rec(term, 0, 3)), api.OK)
		checks(t, meta(term, none, rec(max(term-1, 0), top, 3)), api.OK)
		for _, above := range []int{term + 1, term + 2, top} {
			if above > term {
				checks(t, meta(term, none, rec(above, 0, 3)), api.ErrArg)
			}
		}
	}
	checks(t, meta(top, none, rec(top, top, 3)), api.OK)
	checks(t, meta(0, none, rec(top, 0, 3)), api.ErrArg)
}

// P18.1: what is zero altogether may not be: it has no set. With a set it is a meta that voted for node 0.
func TestCheckOfNothing(t *testing.T) {
	checks(t, api.Meta{}, api.ErrArg)
	checks(t, api.Meta{Rec: rec(0, 0, 3)}, api.OK)
	checks(t, api.Meta{Vote: none, Rec: rec(0, 0, 3)}, api.OK)
}

// P18.1: there are voters just of the nodes 0, 1 and 2.
func TestNewByNode(t *testing.T) {
	for _, node := range nodes() {
		m := meta(4, 0, rec(1, 0, 3))
		if slices.Contains([]int{0, 1, 2}, node) {
			made(t, node, m, 100)
			continue
		}
		isNone(t, node, m, 100)
		isNone(t, node, meta(4, 2, rec(1, 0, 3)), 100)
		isNone(t, node, m, -1)
	}
}

// P18.1: a voter is made at a time, from 0 to 2^40, and its promise is Anyone's, since then.
func TestNewByTime(t *testing.T) {
	for _, now := range numbers() {
		for node := range 3 {
			m := meta(4, 1, rec(1, 0, 3))
			if now < 0 || now > 1<<40 {
				isNone(t, node, m, now)
				isNone(t, node, meta(4, 1, rec(5, 0, 3)), now)
				continue
			}
			made(t, node, m, now)
		}
	}
}

// P18.1: a voter has the meta that New was handed, of whatever fields it may be.
func TestNewByMeta(t *testing.T) {
	for _, m := range []api.Meta{
		{Term: 0, Vote: none, Rec: rec(0, 0, 3), Boot: 0},
		{Term: 4, Vote: 0, Rec: rec(1, 0, 3), Boot: 1},
		{Term: 4, Vote: 1, Rec: rec(4, top, 1), Boot: top},
		{Term: top, Vote: none, Rec: rec(top, top, 2), Boot: top},
	} {
		for node := range 3 {
			made(t, node, m, 0)
			made(t, node, m, top)
		}
	}
}

// P18.1: what a voter that was just made may have promised bars both data nodes from being voted for, and itself from standing, for 1,100.
func TestNewBarsForItsTime(t *testing.T) {
	m := meta(4, none, rec(1, 0, 3))
	for _, begin := range []int{0, 1, 100, 1 << 32, top - 1100} {
		for _, age := range []int{0, 1, 500, 1098, 1099} {
			for from := range 2 {
				refused := granted(witness, 4, m.Rec, false, false)
				v := made(t, witness, m, begin)
				does(t, v, ask(asked(from, 5, m.Rec), begin+age), refused)
				holds(t, v, m, to(anyone, begin))
				refuses(t, made(t, from, m, begin), stand(begin+age), api.ErrState)
				does(t, made(t, 1-from, m, begin), ask(asked(from, 5, m.Rec), begin+age), granted(1-from, 4, m.Rec, false, false))
			}
		}
		for from := range 2 {
			v := made(t, witness, m, begin)
			does(t, v, ask(asked(from, 5, m.Rec), begin+1100), granted(witness, 5, m.Rec, true, true))
			holds(t, v, meta(5, from, m.Rec), to(from, begin+1100))
			does(t, made(t, 1-from, m, begin), ask(asked(from, 5, m.Rec), begin+1100), granted(1-from, 5, m.Rec, true, true))
			v = made(t, from, m, begin)
			does(t, v, stand(begin+1100), said{Term: 5})
			holds(t, v, meta(5, from, m.Rec), to(from, begin+1100))
		}
	}
}

// P18.1, rule 4: voters hear nothing of one another, nor of what is done to what they told.
func TestVotersAreTheirOwn(t *testing.T) {
	m := meta(4, 0, rec(1, 0, 3))
	v, w := made(t, witness, m, 100), made(t, witness, m, 100)
	does(t, v, beat(beaten(1, 9), 200), obeyed(witness, 9, true, true))
	holds(t, w, m, to(anyone, 100))
	told, vow := v.Meta(), v.Promise()
	told.Term, told.Rec.Set, vow.To = 0, 2, 0
	holds(t, v, meta(9, 1, m.Rec), to(1, 200))
	if m != meta(4, 0, rec(1, 0, 3)) {
		t.Fatal("New changes what it is handed:", m)
	}
}

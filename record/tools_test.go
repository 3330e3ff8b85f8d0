package record_test

import (
	"math"
	"math/rand"
	"testing"

	"tandem/api"
	"tandem/record"
)

// top is what a term, and a record's N, is at most, in a number of the tests' own.
const top = 1 << 40

// rec tells a record of its three parts.
func rec(term, n, set int) api.Record { return api.Record{Term: term, N: n, Set: set} }

// numbers tells what a term or an N can be, and what it can not.
func numbers() []int {
	return []int{math.MinInt, math.MinInt + 1, -1 << 62, -top, -1 << 32, -2, -1, 0, 1, 2, 1 << 31, 1 << 32, top / 2, top - 1, top, top + 1, top + 2, 2 * top, 1 << 62, math.MaxInt - 1, math.MaxInt}
}

// sets tells what a set can be, and what it can not.
func sets() []int {
	return []int{math.MinInt, math.MinInt + 1, math.MinInt + 3, -top, 1 - top, -1 << 32, -8, -5, -4, -3, -2, -1, 0, 1, 2, 3, 4, 5, 6, 7, 8, 9, 11, 1 << 32, 1<<32 + 1, 1<<32 + 3, top, top + 2, 1 << 62, 1<<62 + 1, math.MaxInt - 3, math.MaxInt - 1, math.MaxInt}
}

// nodes tells data nodes, the witness, and what is no node.
func nodes() []int {
	return []int{math.MinInt, math.MinInt + 1, -1 << 32, -64, -63, -2, -1, 0, 1, 2, 3, 4, 31, 32, 62, 63, 64, 65, 128, 1 << 32, 1<<32 + 1, top, math.MaxInt - 1, math.MaxInt}
}

// isNumber tells whether a number can be a term, as the document says it.
func isNumber(n int) bool { return n >= 0 && n <= top }

// isSet tells whether a number can be a record's set, as the document says it.
func isSet(n int) bool { return n == 1 || n == 2 || n == 3 }

// maybe tells whether a record may be, as the document says it.
func maybe(r api.Record) bool { return isNumber(r.Term) && isNumber(r.N) && isSet(r.Set) }

// newer tells whether a record is newer than another one, as the document says it.
func newer(a, b api.Record) bool { return a.Term > b.Term || a.Term == b.Term && a.N > b.N }

// has tells whether a record's set has a node, as the document says it: bit 1 is that of node 0, bit 2 that of node 1.
func has(r api.Record, node int) bool {
	lowest := (r.Set%4 + 4) % 4
	switch node {
	case 0:
		return lowest == 1 || lowest == 3
	case 1:
		return lowest == 2 || lowest == 3
	}
	return false
}

// next tells the record behind one, as the document says it.
func next(r api.Record, term, set int) (api.Record, api.Errno) {
	if !maybe(r) || !isSet(set) || !isNumber(term) {
		return api.Record{}, api.ErrArg
	}
	if term < r.Term || term == r.Term && r.N == top {
		return api.Record{}, api.ErrState
	}
	n := 0
	if term == r.Term {
		n = r.N + 1
	}
	return rec(term, n, set), api.OK
}

// may tells whether a node may become primary, as the document says it.
func may(own api.Record, node int, voter api.Record) bool {
	if !maybe(own) || !maybe(voter) || node != 0 && node != 1 {
		return false
	}
	return has(own, node) && (newer(own, voter) || has(voter, node))
}

// checks holds what Check tells of a record.
func checks(t *testing.T, r api.Record, want api.Errno) {
	t.Helper()
	if got := record.Check(r); got != want {
		t.Fatalf("Check(%v) = %d, not %d", r, got, want)
	}
}

// newers holds what Newer tells of two records.
func newers(t *testing.T, a, b api.Record, want bool) {
	t.Helper()
	if got := record.Newer(a, b); got != want {
		t.Fatalf("Newer(%v, %v) = %v", a, b, got)
	}
}

// hases holds what Has tells of a record and a node.
func hases(t *testing.T, r api.Record, node int, want bool) {
	t.Helper()
	if got := record.Has(r, node); got != want {
		t.Fatalf("Has(%v, %d) = %v", r, node, got)
	}
}

// goesOn holds what Next tells: a record; beside an error the zero one.
func goesOn(t *testing.T, r api.Record, term, set int, want api.Record, fault api.Errno) {
	t.Helper()
	if got, err := record.Next(r, term, set); got != want || err != fault {
		t.Fatalf("Next(%v, %d, %d) = %v, %d, not %v, %d", r, term, set, got, err, want, fault)
	}
}

// mays holds what May tells.
func mays(t *testing.T, own api.Record, node int, voter api.Record, want bool) {
	t.Helper()
	if got := record.May(own, node, voter); got != want {
		t.Fatalf("May(%v, %d, %v) = %v", own, node, voter, got)
	}
}

// chance tells a source of numbers without a pattern, the same in every run.
func chance(seed int64) *rand.Rand { return rand.New(rand.NewSource(seed)) }

// one tells one of some numbers.
func one(r *rand.Rand, of ...int) int { return of[r.Intn(len(of))] }

// some tells a record that may be, near the others, so that many have a term, or all but the set, in common.
func some(r *rand.Rand) api.Record { return rec(r.Intn(4), r.Intn(4), 1+r.Intn(3)) }

// wild tells any record: most of them may be.
func wild(r *rand.Rand) api.Record {
	w := rec(one(r, r.Intn(4), top-r.Intn(3)), one(r, r.Intn(4), top-r.Intn(3)), 1+r.Intn(3))
	switch r.Intn(12) {
	case 0:
		w.Term = one(r, numbers()...)
	case 1:
		w.N = one(r, numbers()...)
	case 2:
		w.Set = one(r, sets()...)
	}
	return w
}

package record_test

import (
	"math"
	"testing"

	"tandem/api"
	"tandem/record"
)

// P17.1: the chapter's examples.
func TestExamplesOfNewer(t *testing.T) {
	newers(t, rec(2, 0, 1), rec(1, 9, 3), true)
	newers(t, rec(1, 9, 3), rec(1, 9, 1), false)
}

// P17.1: the first record is Term 0, N 0, Set 3, each time; it may be, has both data nodes, and is newer than none that may be.
func TestFirst(t *testing.T) {
	for range 3 {
		if got := record.First(); got != rec(0, 0, 3) {
			t.Fatalf("First() = %v", got)
		}
	}
	checks(t, record.First(), api.OK)
	hases(t, record.First(), 0, true)
	hases(t, record.First(), 1, true)
	for _, term := range []int{0, 1, top} {
		for _, n := range []int{0, 1, top} {
			newers(t, record.First(), rec(term, n, 1), false)
			newers(t, rec(term, n, 1), record.First(), term+n > 0)
		}
	}
}

// P17.1: a record may be, if its term and its N are from 0 to 2^40, in either place and in both.
func TestCheckOfNumbers(t *testing.T) {
	right := []int{0, 1, 2, 1 << 31, 1 << 32, top / 2, top - 1, top}
	wrong := []int{math.MinInt, math.MinInt + 1, -top, -1 << 32, -2, -1, top + 1, top + 2, 1 << 41, 1 << 62, math.MaxInt - 1, math.MaxInt}
	for set := 1; set <= 3; set++ {
		for _, n := range right {
			for _, other := range right {
				checks(t, rec(n, other, set), api.OK)
			}
			for _, other := range wrong {
				checks(t, rec(n, other, set), api.ErrArg)
				checks(t, rec(other, n, set), api.ErrArg)
			}
		}
		for _, n := range wrong {
			for _, other := range wrong {
				checks(t, rec(n, other, set), api.ErrArg)
			}
		}
	}
}

// P17.1: a record may be, if its set is 1, 2 or 3: one that has nobody may not, nor one that has somebody else, too.
func TestCheckOfSets(t *testing.T) {
	for _, n := range []int{0, 1, top} {
		for set := 1; set <= 3; set++ {
			checks(t, rec(n, top-n, set), api.OK)
		}
		for _, set := range []int{-1, 0, 4, 5, 6, 7, 8, -2, -3, -4, 1<<32 + 1, 1<<32 + 3, 1 << 62, math.MinInt, math.MinInt + 1, math.MinInt + 3, math.MaxInt} {
			checks(t, rec(n, top-n, set), api.ErrArg)
		}
	}
}

// P17.1: each record of many numbers and sets, beside the document's words.
func TestCheckAsTheWordsSay(t *testing.T) {
	for _, term := range numbers() {
		for _, n := range numbers() {
			for _, set := range sets() {
				r := rec(term, n, set)
				want := api.ErrArg
				if maybe(r) {
					want = api.OK
				}
				checks(t, r, want)
			}
		}
	}
}

// P17.1: of two records the one of the greater term is newer, whatever their Ns are; in the same term the one of the greater N; the sets do not matter.
func TestNewer(t *testing.T) {
	for _, c := range []struct{ late, old api.Record }{
		{rec(1, 0, 0), rec(0, 0, 0)}, {rec(1, 0, 0), rec(0, top, 0)}, {rec(1, 5, 0), rec(0, 3, 0)}, {rec(2, 3, 0), rec(1, 3, 0)}, {rec(top, 0, 0), rec(top-1, top, 0)},
		{rec(0, 1, 0), rec(0, 0, 0)}, {rec(7, 5, 0), rec(7, 4, 0)}, {rec(7, top, 0), rec(7, top-1, 0)}, {rec(7, top, 0), rec(7, 0, 0)}, {rec(top, 1, 0), rec(top, 0, 0)},
		{rec(1<<32, 0, 0), rec(5, 0, 0)}, {rec(5, 1<<32, 0), rec(5, 7, 0)}, {rec(1<<32+1, 0, 0), rec(1<<32, 9, 0)},
	} {
		for a := 1; a <= 3; a++ {
			for b := 1; b <= 3; b++ {
				c.late.Set, c.old.Set = a, b
				newers(t, c.late, c.old, true)
				newers(t, c.old, c.late, false)
			}
		}
	}
}

// P17.1: of two records that differ in their sets alone, or in nothing, neither is newer.
func TestNewerOfTheSame(t *testing.T) {
	for _, n := range numbers() {
		for _, set := range sets() {
			newers(t, rec(n, 5, set), rec(n, 5, 3), false)
			newers(t, rec(n, 5, 3), rec(n, 5, set), false)
			newers(t, rec(5, n, set), rec(5, n, set), false)
		}
	}
}

// P17.1: records that may not be are newer by the same words, where the difference of the two would wrap round, too.
func TestNewerOfAnyRecords(t *testing.T) {
	newers(t, rec(math.MaxInt, 0, 0), rec(math.MinInt, 0, 0), true)
	newers(t, rec(math.MinInt, 0, 0), rec(math.MaxInt, 0, 0), false)
	newers(t, rec(-1, math.MaxInt, 9), rec(-1, math.MinInt, -9), true)
	newers(t, rec(-1, math.MinInt, 9), rec(-1, math.MaxInt, -9), false)
	newers(t, rec(0, 0, 3), rec(-1, 5, 3), true)
	newers(t, rec(-1, -1, 0), rec(-1, -2, 0), true)
	newers(t, rec(math.MaxInt, 0, 3), rec(-2, 0, 3), true)
	for _, term := range numbers() {
		for _, n := range numbers() {
			for _, other := range numbers() {
				for _, late := range numbers() {
					a, b := rec(term, n, 1), rec(other, late, 2)
					newers(t, a, b, newer(a, b))
				}
			}
		}
	}
}

// P17.1: a record has a node, if that node's bit is in its set: bit 1 of node 0, bit 2 of node 1; other bits do not matter.
func TestHas(t *testing.T) {
	for set, want := range map[int][2]bool{
		-4: {false, false}, -3: {true, false}, -2: {false, true}, -1: {true, true}, 0: {false, false}, 1: {true, false}, 2: {false, true}, 3: {true, true},
		4: {false, false}, 5: {true, false}, 6: {false, true}, 7: {true, true}, math.MinInt: {false, false}, math.MaxInt: {true, true},
		math.MinInt + 1: {true, false}, math.MaxInt - 1: {false, true}, 1 << 32: {false, false}, 1<<62 + 2: {false, true},
	} {
		for _, n := range []int{0, 5, top, -1, math.MaxInt} {
			hases(t, rec(n, 9, set), 0, want[0])
			hases(t, rec(9, n, set), 1, want[1])
		}
	}
}

// P17.1, P1: no record has a node that is not 0 or 1, whatever its set is.
func TestHasOfNoDataNode(t *testing.T) {
	for _, node := range []int{-1, 2, 3, 63, 64, math.MinInt, math.MaxInt, -2, -63, -64, 1 << 32, 1<<32 + 1} {
		for set := -4; set <= 7; set++ {
			hases(t, rec(1, 2, set), node, false)
		}
		for _, set := range sets() {
			hases(t, rec(1, 2, set), node, false)
		}
	}
}

// P17.1: each node of many, in each set of many, beside the document's words.
func TestHasAsTheWordsSay(t *testing.T) {
	for _, node := range nodes() {
		for _, set := range sets() {
			hases(t, rec(4, 4, set), node, has(rec(4, 4, set), node))
		}
	}
}

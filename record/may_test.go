package record_test

import (
	"math"
	"testing"

	"tandem/api"
	"tandem/record"
)

// P17.3: the chapter's examples.
func TestExamplesOfMay(t *testing.T) {
	mays(t, rec(1, 4, 3), 0, rec(1, 4, 3), true)
	mays(t, rec(1, 4, 3), 0, rec(1, 5, 2), false)
	mays(t, rec(1, 5, 1), 0, rec(1, 4, 2), true)
	mays(t, rec(1, 4, 2), 0, rec(0, 0, 3), false)
}

// byTheirSets holds May for all pairs of sets, where the one record is as new as that against the other one: it is told just of the pairs named, own set first.
func byTheirSets(t *testing.T, own, voter api.Record, node int, pairs ...[2]int) {
	t.Helper()
	named := map[[2]int]int{}
	for _, pair := range pairs {
		named[pair]++
	}
	for own.Set = 1; own.Set <= 3; own.Set++ {
		for voter.Set = 1; voter.Set <= 3; voter.Set++ {
			mays(t, own, node, voter, named[[2]int{own.Set, voter.Set}] > 0)
		}
	}
}

// P17.3: with a newer record than its voter's a node may become primary, if its own set has it, whatever the voter's set is.
func TestMayByANewerRecord(t *testing.T) {
	for _, c := range [][2]api.Record{{rec(1, 5, 0), rec(1, 4, 0)}, {rec(2, 0, 0), rec(1, 9, 0)}, {rec(2, 9, 0), rec(1, 9, 0)}, {rec(0, 1, 0), rec(0, 0, 0)}, {rec(top, top, 0), rec(top, top-1, 0)}, {rec(top, 0, 0), rec(top-1, top, 0)}} {
		byTheirSets(t, c[0], c[1], 0, [2]int{1, 1}, [2]int{1, 2}, [2]int{1, 3}, [2]int{3, 1}, [2]int{3, 2}, [2]int{3, 3})
		byTheirSets(t, c[0], c[1], 1, [2]int{2, 1}, [2]int{2, 2}, [2]int{2, 3}, [2]int{3, 1}, [2]int{3, 2}, [2]int{3, 3})
	}
}

// P17.3: with an older record than its voter's, or one as new, a node may become primary, if both sets have it.
func TestMayByNoNewerRecord(t *testing.T) {
	for _, c := range [][2]api.Record{
		{rec(1, 4, 0), rec(1, 4, 0)}, {rec(0, 0, 0), rec(0, 0, 0)}, {rec(top, top, 0), rec(top, top, 0)},
		{rec(1, 4, 0), rec(1, 5, 0)}, {rec(1, 9, 0), rec(2, 0, 0)}, {rec(1, 9, 0), rec(2, 9, 0)}, {rec(0, 0, 0), rec(0, 1, 0)}, {rec(top-1, top, 0), rec(top, 0, 0)}, {rec(0, 0, 0), rec(top, top, 0)},
	} {
		byTheirSets(t, c[0], c[1], 0, [2]int{1, 1}, [2]int{1, 3}, [2]int{3, 1}, [2]int{3, 3})
		byTheirSets(t, c[0], c[1], 1, [2]int{2, 2}, [2]int{2, 3}, [2]int{3, 2}, [2]int{3, 3})
	}
}

// P17.3, P1: nobody but node 0 and node 1 may become primary, the witness neither, whatever the records are.
func TestMayOfNoDataNode(t *testing.T) {
	for _, node := range []int{-1, 2, 3, 4, 63, 64, math.MinInt, math.MaxInt, -64, 1 << 32, 1<<32 + 1} {
		for _, own := range []api.Record{rec(0, 0, 3), rec(1, 4, 3), rec(1, 5, 3), rec(9, 0, 3), rec(1, 4, -1), rec(1, 4, 7), rec(1, 4, math.MaxInt)} {
			mays(t, own, node, rec(1, 4, 3), false)
			mays(t, own, node, own, false)
		}
	}
}

// P17.3: by a record that may not be nobody may become primary, on either side, though the sets would do, and the other record is right.
func TestMayByNoRecord(t *testing.T) {
	wrong := []api.Record{rec(-1, 4, 3), rec(top+1, 4, 3), rec(1, -1, 3), rec(1, top+1, 3), rec(math.MaxInt, 0, 3), rec(1, math.MaxInt, 3), rec(math.MinInt, 0, 3), rec(1, math.MinInt, 3)}
	for _, set := range []int{-1, 0, 4, 5, 6, 7, math.MinInt, math.MaxInt} {
		wrong = append(wrong, rec(1, 4, set))
	}
	for _, r := range wrong {
		for node := range 2 {
			for _, right := range []api.Record{rec(0, 0, 3), rec(1, 4, 3), rec(1, 5, 3), rec(top, top, 3)} {
				mays(t, r, node, right, false)
				mays(t, right, node, r, false)
				mays(t, right, node, right, true)
			}
			for _, other := range wrong {
				mays(t, r, node, other, false)
			}
		}
	}
}

// P17.3: each pair of many records, for each node, beside the document's words.
func TestMayAsTheWordsSay(t *testing.T) {
	for _, own := range few() {
		for _, voter := range few() {
			for _, node := range nodes() {
				mays(t, own, node, voter, may(own, node, voter))
			}
		}
	}
}

// few tells records that may be, near each other and far, and some that may not.
func few() []api.Record {
	var all []api.Record
	for _, term := range []int{-1, 0, 1, top, top + 1} {
		for _, n := range []int{-1, 0, 1, top, top + 1} {
			for _, set := range []int{-1, 0, 1, 2, 3, 4, 7} {
				all = append(all, rec(term, n, set))
			}
		}
	}
	return all
}

// P17.3: records without a pattern, beside the document's words.
func TestMayWithoutAPattern(t *testing.T) {
	r := chance(2)
	for range 30000 {
		own, voter, node := wild(r), wild(r), one(r, 0, 1, 0, 1, one(r, nodes()...))
		mays(t, own, node, voter, may(own, node, voter))
	}
}

// P1: the same is told of the same arguments, whoever else asks meanwhile.
func TestTheSameOfTheSame(t *testing.T) {
	for range 8 {
		t.Run("", func(t *testing.T) {
			t.Parallel()
			r := chance(3)
			for range 3000 {
				a, b, node := wild(r), wild(r), r.Intn(4)-1
				want, fault := next(a, b.Term, b.Set)
				goesOn(t, a, b.Term, b.Set, want, fault)
				newers(t, a, b, newer(a, b))
				hases(t, a, node, has(a, node))
				mays(t, a, node, b, may(a, node, b))
				if (record.Check(a) == api.OK) != maybe(a) || record.First() != rec(0, 0, 3) {
					t.Fatalf("Check(%v) = %d, First() = %v", a, record.Check(a), record.First())
				}
			}
		})
	}
}

package record_test

import (
	"math"
	"testing"

	"tandem/api"
	"tandem/record"
)

// P17.4: Next of a record is newer than that, may be, and has the set that it was to have.
func TestNextIsNewer(t *testing.T) {
	there := 0
	for _, r := range records() {
		for _, term := range []int{0, 1, r.Term, r.Term + 1, top - 1, top} {
			for set := 1; set <= 3; set++ {
				late, err := record.Next(r, term, set)
				if err != api.OK {
					continue
				}
				there++
				checks(t, late, api.OK)
				newers(t, late, r, true)
				newers(t, r, late, false)
				hases(t, late, 0, set != 2)
				hases(t, late, 1, set != 1)
			}
		}
	}
	if there < 300 {
		t.Fatalf("of all these records there are %d next ones", there)
	}
}

// P17.4: records of which each is the next of the one ahead are newer than all that came ahead, and none is newer than what came behind.
func TestNextOneBehindAnother(t *testing.T) {
	for seed := range int64(40) {
		r := chance(seed)
		all := []api.Record{record.First()}
		for range 60 {
			last := all[len(all)-1]
			term := one(r, last.Term, last.Term, last.Term+1, last.Term+r.Intn(1000))
			late, err := record.Next(last, term, 1+r.Intn(3))
			if err != api.OK {
				t.Fatalf("Next(%v, %d) = %d", last, term, err)
			}
			for _, old := range all {
				newers(t, late, old, true)
				newers(t, old, late, false)
			}
			all = append(all, late)
		}
	}
}

// P17.4: to be newer is an order, of any three records: one that is newer than another one, which is newer than a third one, is newer than that; of two never both are newer, and none is newer than itself.
func TestNewerIsAnOrder(t *testing.T) {
	all := far()
	for _, a := range all {
		newers(t, a, a, false)
		for _, b := range all {
			ahead := record.Newer(a, b)
			if ahead {
				newers(t, b, a, false)
			}
			for _, c := range all {
				if ahead && record.Newer(b, c) {
					newers(t, a, c, true)
				}
			}
		}
	}
}

// P17.4: what is as new as something else stands where that stands: neither of two is newer just where a third one is newer than both or than neither.
func TestNewerOfWhatIsAsNew(t *testing.T) {
	all := far()
	for _, a := range all {
		for _, b := range all {
			if record.Newer(a, b) || record.Newer(b, a) {
				continue
			}
			for _, c := range all {
				newers(t, c, a, record.Newer(c, b))
				newers(t, a, c, record.Newer(b, c))
			}
		}
	}
}

// far tells records whose terms and Ns lie as far from each other as numbers can, with two sets each.
func far() []api.Record {
	var all []api.Record
	ends := []int{math.MinInt, -top, -1, 0, 1, top, math.MaxInt - 1, math.MaxInt}
	for _, term := range ends {
		for _, n := range ends {
			all = append(all, rec(term, n, 1), rec(term, n, 3))
		}
	}
	return all
}

// isOrNewer tells whether a record is that one, or a newer one.
func isOrNewer(r, that api.Record) bool { return r == that || record.Newer(r, that) }

// fenced holds P17.5 for three nodes' records, and one that has a node not: if two of the three have that or a newer one, a voter and that node as a candidate make it primary by a newer one alone. It tells how often that happens, and whether two have it.
func fenced(t *testing.T, all [3]api.Record, that api.Record, node int) (made int, two bool) {
	t.Helper()
	have := 0
	for _, r := range all {
		if isOrNewer(r, that) {
			have++
		}
	}
	if have < 2 {
		return 0, false
	}
	for voter, rec := range all {
		if voter == node || !record.May(all[node], node, rec) {
			continue
		}
		if !record.Newer(all[node], that) && !record.Newer(rec, that) {
			t.Fatalf("the nodes have %v; node %d may become primary by the vote of node %d, though %v has it not", all, node, voter, that)
		}
		made++
	}
	return made, true
}

// P17.5: of all records of two terms and of two Ns any three, beside any one that has a data node not.
func TestFencedByTwoOfThree(t *testing.T) {
	var recs []api.Record
	for i := range 12 {
		recs = append(recs, rec(i/6, i/3%2, 1+i%3))
	}
	made, twos := 0, 0
	for i := range 12 * 12 * 12 {
		all := [3]api.Record{recs[i/144], recs[i/12%12], recs[i%12]}
		for _, that := range recs {
			for node := range 2 {
				if record.Has(that, node) {
					continue
				}
				many, two := fenced(t, all, that, node)
				made += many
				if two {
					twos++
				}
			}
		}
	}
	if made == 0 || twos < 5000 {
		t.Fatalf("two of three had it %d times, and a newer one made a node primary %d times", twos, made)
	}
}

// P17.5: records without a pattern, of more terms.
func TestFencedWithoutAPattern(t *testing.T) {
	r := chance(4)
	made := 0
	for range 100000 {
		that, all := some(r), [3]api.Record{some(r), some(r), some(r)}
		if first := r.Intn(3); r.Intn(2) == 0 {
			all[first], all[(first+1)%3] = that, that
		}
		for node := range 2 {
			if !record.Has(that, node) {
				many, _ := fenced(t, all, that, node)
				made += many
			}
		}
	}
	if made == 0 {
		t.Fatal("no newer record made a node primary")
	}
}

// P17.5: whichever two of the three have taken the record that has a node not, that node is not made primary, till a newer one has it again; where one alone has taken it, it may be.
func TestFencedFromOneSetToAnother(t *testing.T) {
	for node := range 2 {
		for left := range 3 {
			old := rec(3, 7, 3)
			alone := after(t, old, 3, 2-node)
			all := [3]api.Record{alone, alone, alone}
			all[left] = old
			if many, two := fenced(t, all, alone, node); many > 0 || !two {
				t.Fatalf("%d left behind: node %d may become primary %d times", left, node, many)
			}
			again := (left + 1) % 3
			all[again] = after(t, alone, 3, 3)
			want := 0
			switch node {
			case again:
				want = 2
			case left:
				want = 1
			}
			if many, _ := fenced(t, all, alone, node); many != want {
				t.Fatalf("%d left behind, %d ahead: node %d may become primary by the votes of %d others, not %d", left, again, node, many, want)
			}
		}
		all := [3]api.Record{rec(3, 7, 3), rec(3, 7, 3), rec(3, 7, 3)}
		all[1-node] = rec(3, 8, 2-node)
		mays(t, all[node], node, all[2], true)
		mays(t, all[node], node, all[1-node], false)
	}
}

// after tells the record behind one.
func after(t *testing.T, r api.Record, term, set int) api.Record {
	t.Helper()
	late, err := record.Next(r, term, set)
	if err != api.OK {
		t.Fatalf("Next(%v, %d, %d) = %d", r, term, set, err)
	}
	return late
}

package record_test

import (
	"math"
	"testing"

	"tandem/api"
)

// P17.2: the chapter's examples.
func TestExamplesOfNext(t *testing.T) {
	goesOn(t, rec(1, 4, 3), 1, 1, rec(1, 5, 1), api.OK)
	goesOn(t, rec(1, 4, 3), 5, 2, rec(5, 0, 2), api.OK)
	goesOn(t, rec(1, 4, 3), 0, 1, api.Record{}, api.ErrState)
}

// P17.2: in the record's term N goes up by one, from 0 to 2^40, and no further.
func TestNextInTheTerm(t *testing.T) {
	for _, term := range []int{0, 1, 7, 1 << 32, top - 1, top} {
		for old := 1; old <= 3; old++ {
			for set := 1; set <= 3; set++ {
				for _, n := range []int{0, 1, 5, 1<<31 - 1, 1<<32 - 1, top - 2, top - 1} {
					goesOn(t, rec(term, n, old), term, set, rec(term, n+1, set), api.OK)
				}
				goesOn(t, rec(term, top, old), term, set, api.Record{}, api.ErrState)
			}
		}
	}
}

// P17.2: in a greater term N begins at 0, whatever it was, at 2^40 too.
func TestNextInAGreaterTerm(t *testing.T) {
	for _, term := range []int{0, 1, 7, 1 << 32, top - 1} {
		for _, n := range []int{0, 1, top - 1, top} {
			for _, late := range []int{term + 1, (term + top + 1) / 2, top} {
				for set := 1; set <= 3; set++ {
					goesOn(t, rec(term, n, 3), late, set, rec(late, 0, set), api.OK)
				}
			}
		}
	}
}

// P17.2: a term below the record's is refused, whatever its N is.
func TestNextInALesserTerm(t *testing.T) {
	for _, term := range []int{1, 2, 7, 1 << 32, top} {
		for _, n := range []int{0, 4, top - 1, top} {
			for _, late := range []int{0, term / 2, term - 1} {
				for set := 1; set <= 3; set++ {
					goesOn(t, rec(term, n, 3), late, set, api.Record{}, api.ErrState)
				}
			}
		}
	}
}

// P17.2: of a record that may not be, in whichever part, there is no next one.
func TestNextOfNoRecord(t *testing.T) {
	for _, wrong := range []int{math.MinInt, -1, top + 1, math.MaxInt} {
		for _, r := range []api.Record{rec(wrong, 4, 3), rec(1, wrong, 3), rec(wrong, wrong, 3)} {
			for _, term := range []int{0, 1, 2, top} {
				goesOn(t, r, term, 1, api.Record{}, api.ErrArg)
			}
		}
	}
	for _, set := range []int{math.MinInt, -1, 0, 4, 5, 7, math.MaxInt} {
		for _, term := range []int{0, 1, 2, top} {
			goesOn(t, rec(1, 4, set), term, 1, api.Record{}, api.ErrArg)
		}
	}
}

// P17.2: a set that is not 1, 2 or 3, and a term that is not from 0 to 2^40, are refused as such.
func TestNextOfNoSetAndNoTerm(t *testing.T) {
	for _, set := range []int{math.MinInt, math.MinInt + 1, -2, -1, 0, 4, 5, 6, 7, 1<<32 + 1, math.MaxInt} {
		goesOn(t, rec(1, 4, 3), 1, set, api.Record{}, api.ErrArg)
		goesOn(t, rec(1, 4, 3), 5, set, api.Record{}, api.ErrArg)
	}
	for _, term := range []int{math.MinInt, -1 << 32, -1, top + 1, 1 << 41, math.MaxInt} {
		for set := 1; set <= 3; set++ {
			goesOn(t, rec(0, 4, 3), term, set, api.Record{}, api.ErrArg)
			goesOn(t, rec(top, 4, 3), term, set, api.Record{}, api.ErrArg)
		}
	}
}

// P17.2: where both errors apply, ErrArg is told.
func TestNextTellsTheFirstError(t *testing.T) {
	goesOn(t, rec(5, 4, 3), 4, 0, api.Record{}, api.ErrArg)
	goesOn(t, rec(5, 4, 3), -1, 1, api.Record{}, api.ErrArg)
	goesOn(t, rec(5, 4, 0), 4, 1, api.Record{}, api.ErrArg)
	goesOn(t, rec(5, -1, 3), 4, 1, api.Record{}, api.ErrArg)
	goesOn(t, rec(top+1, 4, 3), top, 1, api.Record{}, api.ErrArg)
	goesOn(t, rec(top+1, 4, 3), top+1, 1, api.Record{}, api.ErrArg)
	goesOn(t, rec(5, top, 3), 5, 4, api.Record{}, api.ErrArg)
	goesOn(t, rec(5, top, 4), 5, 1, api.Record{}, api.ErrArg)
	goesOn(t, rec(5, top+1, 3), 5, 1, api.Record{}, api.ErrArg)
	goesOn(t, rec(5, math.MaxInt, 3), 5, 1, api.Record{}, api.ErrArg)
	goesOn(t, rec(top, top, 3), top+1, 1, api.Record{}, api.ErrArg)
	goesOn(t, rec(top, top, 3), top, 1, api.Record{}, api.ErrState)
}

// P17.2: many records, terms about theirs, and sets, beside the document's words.
func TestNextAsTheWordsSay(t *testing.T) {
	for _, r := range records() {
		terms := []int{math.MinInt, -1, 0, 1, top - 1, top, top + 1, math.MaxInt, r.Term}
		if r.Term > math.MinInt {
			terms = append(terms, r.Term-1)
		}
		if r.Term < math.MaxInt {
			terms = append(terms, r.Term+1)
		}
		for _, term := range terms {
			for _, set := range []int{-1, 0, 1, 2, 3, 4} {
				want, fault := next(r, term, set)
				goesOn(t, r, term, set, want, fault)
			}
		}
	}
}

// records tells records of many numbers and sets, whether they may be or not.
func records() []api.Record {
	var all []api.Record
	for _, term := range numbers() {
		for _, n := range numbers() {
			for _, set := range []int{math.MinInt, -1, 0, 1, 2, 3, 4, math.MaxInt} {
				all = append(all, rec(term, n, set))
			}
		}
	}
	return all
}

// P17.2: records without a pattern, beside the document's words.
func TestNextWithoutAPattern(t *testing.T) {
	r := chance(1)
	for range 30000 {
		old := wild(r)
		term := one(r, old.Term, old.Term, r.Intn(5), top-r.Intn(3), one(r, numbers()...))
		set := one(r, 1, 2, 3, 1+r.Intn(3), one(r, sets()...))
		want, fault := next(old, term, set)
		goesOn(t, old, term, set, want, fault)
	}
}

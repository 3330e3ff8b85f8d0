package voter_test

import "testing"

// P18.1 to P18.4: the chapter's examples, one behind the other.
func TestExamples(t *testing.T) {
	first := rec(1, 0, 3)
	v := made(t, 2, meta(4, 0, first), 100)
	does(t, v, ask(asked(1, 5, first), 200), granted(2, 4, first, false, false))
	does(t, v, ask(asked(1, 5, first), 1200), granted(2, 5, first, true, true))
	holds(t, v, meta(5, 1, first), to(1, 1200))
	does(t, v, ask(asked(0, 5, first), 2300), granted(2, 5, first, false, false))
	does(t, v, ask(asked(0, 6, first), 1300), granted(2, 5, first, false, false))
	does(t, v, ask(asked(0, 6, first), 2300), granted(2, 6, first, true, true))
	holds(t, v, meta(6, 0, first), to(0, 2300))
	does(t, v, beat(beaten(0, 3), 5), obeyed(2, 6, false, false))
	does(t, v, beat(beaten(0, 7), 2400), obeyed(2, 7, true, true))
	holds(t, v, meta(7, 0, first), to(0, 2400))
	alone := rec(7, 0, 1)
	does(t, v, note(noted(0, 7, alone)), kept(2, 7, alone, true, true))
	does(t, v, ask(asked(1, 8, first), 3600), granted(2, 7, alone, false, false))
	holds(t, v, meta(7, 0, alone), to(0, 2400))
}

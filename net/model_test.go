package net_test

import (
	"fmt"
	"math/rand"
	"slices"
	"strings"
	"testing"

	"tandem/api"
	"tandem/net"
)

// words is a net beside what the document's words say of it.
type words struct {
	t    *testing.T
	r    *rand.Rand
	n    *net.Net
	way  []packet
	lost int
	cut  map[[2]int]bool
	sent int // how many datagrams were sent, or doubled
	came int // how many were delivered
}

// answers holds an answer against what the words say.
func (w *words) answers(got, want api.Errno, call string, args ...any) {
	w.t.Helper()
	if got != want {
		w.t.Fatalf("%s%v = %v, not %v", call, args, got, want)
	}
}

// send has a datagram be sent.
func (w *words) send(from, to int, text string) {
	w.t.Helper()
	want := api.OK
	there, _ := pairs()
	switch l := [2]int{from, to}; {
	case !slices.Contains(there, l):
		want = api.ErrArg
	case len(text) > most:
		want = api.ErrLong
	case w.cut[l] || len(w.way) == room:
		w.sent++
		w.lost++
	default:
		w.sent++
		w.way = append(w.way, packet{from, to, text})
	}
	w.answers(w.n.Send(from, to, []byte(text)), want, "Send", from, to, len(text))
}

// deliver has the one at a place be delivered.
func (w *words) deliver(i int) {
	w.t.Helper()
	got, err := w.n.Deliver(i)
	if i < 0 || len(w.way) < i+1 {
		w.answers(err, api.ErrRange, "Deliver", i)
		return
	}
	w.answers(err, api.OK, "Deliver", i)
	if told(got) != w.way[i] {
		w.t.Fatalf("Deliver(%d) = %v, not %v", i, told(got), w.way[i])
	}
	w.way = slices.Delete(w.way, i, i+1)
	w.came++
}

// drop has the one at a place be dropped.
func (w *words) drop(i int) {
	w.t.Helper()
	want := api.ErrRange
	if i >= 0 && len(w.way) >= i+1 {
		want = api.OK
		w.way = slices.Delete(w.way, i, i+1)
		w.lost++
	}
	w.answers(w.n.Drop(i), want, "Drop", i)
}

// double has the one at a place be doubled.
func (w *words) double(i int) {
	w.t.Helper()
	want := api.OK
	switch {
	case i < 0 || len(w.way) < i+1:
		want = api.ErrRange
	case len(w.way) == room:
		want = api.ErrFull
	default:
		w.way = append(w.way, w.way[i])
		w.sent++
	}
	w.answers(w.n.Double(i), want, "Double", i)
}

// cutLink has a link be cut, or mended.
func (w *words) cutLink(from, to int, is bool) {
	w.t.Helper()
	want := api.ErrArg
	if from >= 0 && from <= 2 && to >= 0 && to <= 2 && from != to {
		want = api.OK
		w.cut[[2]int{from, to}] = is
	}
	w.answers(w.n.Cut(from, to, is), want, "Cut", from, to, is)
}

// clear has all be lost.
func (w *words) clear() {
	w.t.Helper()
	w.lost += len(w.way)
	w.way = nil
	w.answers(w.n.Clear(), api.OK, "Clear")
}

// holds holds the counts, one place, and P14.5's sum; all says that each place is held, and each link.
func (w *words) holds(all bool) {
	w.t.Helper()
	if w.n.Count() != len(w.way) || w.n.Lost() != w.lost {
		w.t.Fatalf("Count() = %d, Lost() = %d, not %d, %d", w.n.Count(), w.n.Lost(), len(w.way), w.lost)
	}
	if w.sent != w.came+w.n.Lost()+w.n.Count() {
		w.t.Fatalf("%d were sent and doubled; %d came, %d are lost, %d are on their way", w.sent, w.came, w.n.Lost(), w.n.Count())
	}
	if len(w.way) > 0 {
		i := w.r.Intn(len(w.way))
		looks(w.t, w.n, i, w.way[i])
		looks(w.t, w.n, len(w.way)-1, w.way[len(w.way)-1])
	}
	if all {
		holds(w.t, w.n, w.lost, w.way...)
		holdsCut(w.t, w.n, w.cut)
	}
}

// place tells a place, mostly of one that is on its way.
func (w *words) place() int { return w.r.Intn(len(w.way)+3) - 1 }

// node tells a node's number, seldom one of none.
func (w *words) node() int {
	if w.r.Intn(12) == 0 {
		return w.r.Intn(9) - 3
	}
	return w.r.Intn(3)
}

// step does one thing, of all that may be; the higher full is, the likelier it sends.
func (w *words) step(full int) {
	w.t.Helper()
	switch x := w.r.Intn(20 + full); {
	case x < 4:
		w.deliver(w.place())
	case x < 6:
		w.drop(w.place())
	case x < 9:
		w.double(w.place())
	case x < 13:
		w.cutLink(w.node(), w.node(), w.r.Intn(3) == 0)
	case x == 13 && w.r.Intn(30) == 0:
		w.clear()
	default:
		size := []int{0, 1, 2, w.r.Intn(40), w.r.Intn(40), most - 1, most, most + 1, w.r.Intn(700)}[w.r.Intn(9)]
		w.send(w.node(), w.node(), string(wild(w.r, size)))
	}
}

// begun tells a new net, beside the words.
func begun(t *testing.T, seed int64) *words {
	return &words{t: t, r: chance(seed), n: net.New(), cut: map[[2]int]bool{}}
}

// P14.5, and all of P14.1 to P14.4: scripts of many calls, right and wrong ones, beside the document's words; the sum behind each call.
func TestScripts(t *testing.T) {
	for seed := range int64(40) {
		w := begun(t, seed)
		for i := range 1500 {
			w.step(0)
			w.holds(i%50 == 0)
		}
		w.holds(true)
		if w.came == 0 || w.lost == 0 {
			t.Fatalf("seed %d: %d came, %d are lost: the script is too tame", seed, w.came, w.lost)
		}
	}
}

// P14.5: scripts on a net that is full, or nearly so, for most of the time.
func TestScriptsOfAFullNet(t *testing.T) {
	for seed := range int64(4) {
		w := begun(t, 1000+seed)
		for i := 0; len(w.way) < room; i++ {
			w.send(i%3, (i+1)%3, fmt.Sprint(i))
		}
		full := 0
		for i := range 2500 {
			w.step(12)
			w.holds(i%500 == 0)
			if len(w.way) == room {
				full++
			}
			if len(w.way) == 0 {
				break
			}
		}
		w.holds(true)
		if full == 0 {
			t.Fatalf("seed %d: the net was never full", seed)
		}
	}
}

// P14.5: each comes as it was sent, over the link over which it was sent, in which order and how often soever.
func TestEachComesAsItWasSent(t *testing.T) {
	r := chance(3)
	for range 20 {
		n := net.New()
		want := map[packet]int{}
		sent := 0
		for i := range 150 {
			p := packet{i % 3, (i + 1 + r.Intn(2)) % 3, fmt.Sprint(i, strings.Repeat("!", r.Intn(most-3)))}
			sends(t, n, p)
			want[p]++
			sent++
			for range r.Intn(3) {
				at := r.Intn(n.Count())
				twin, _ := n.Look(at)
				doubles(t, n, at)
				want[told(twin)]++
				sent++
			}
		}
		for came := 0; n.Count() > 0; came++ {
			got, err := n.Deliver(r.Intn(n.Count()))
			p := told(got)
			if err != api.OK || want[p] == 0 {
				t.Fatalf("Deliver = %v, %v: it was not sent so often", p, err)
			}
			want[p]--
			if sent != came+1+n.Count() {
				t.Fatalf("%d were sent, %d came, %d are on their way", sent, came+1, n.Count())
			}
		}
		holds(t, n, 0)
	}
}

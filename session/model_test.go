package session_test

import (
	"bytes"
	"fmt"
	"math/rand"
	"slices"
	"strings"
	"testing"

	"tandem/api"
	"tandem/session"
)

// node is a session beside what the document's words say of it; the words keep all, and forget nothing.
type node struct {
	t     *testing.T
	s     *session.Session
	boot  int
	sent  int
	waits []parts // number and text alone, the oldest first
	other int
	came  came
}

// opened tells a node of a boot.
func opened(t *testing.T, boot int) *node {
	return &node{t: t, s: made(t, boot), boot: boot, came: came{}}
}

// says tells what a datagram of the node's carries.
func (n *node) says(p parts) parts {
	return parts{boot: n.boot, number: p.number, other: n.other, top: n.came.top(), came: n.came.word(), text: p.text}
}

// holds holds what the session lets be seen against the words.
func (n *node) holds() {
	n.t.Helper()
	if n.s.Boot() != n.boot || n.s.Other() != n.other {
		n.t.Fatalf("Boot() = %d, Other() = %d, not %d, %d", n.s.Boot(), n.s.Other(), n.boot, n.other)
	}
	var want []parts
	for _, p := range n.waits {
		want = append(want, n.says(p))
	}
	resends(n.t, n.s, want...)
	acks(n.t, n.s, n.says(parts{}))
}

// send sends a text, and tells the datagram.
func (n *node) send(text string) []byte {
	n.t.Helper()
	if len(text) > most {
		if b, err := n.s.Send([]byte(text)); b != nil || err != api.ErrLong {
			n.t.Fatalf("Send of %d bytes = %v, %v, not ErrLong", len(text), b, err)
		}
		return nil
	}
	n.sent++
	p := parts{number: n.sent, text: text}
	n.waits = append(n.waits, p)
	if len(n.waits) > again {
		n.waits = n.waits[1:]
	}
	return sends(n.t, n.s, n.says(p))
}

// wrong tells the error that the words have of a datagram's parts.
func wrong(p parts) api.Errno {
	if p.boot < 1 || max(p.boot, p.number, p.other, p.top) > last || len(p.text) > most || p.number == 0 && p.text != "" {
		return api.ErrRange
	}
	return api.OK
}

// hears tells what the words have the session tell of a datagram's parts, that are right.
func (n *node) hears(p parts) (string, bool) {
	if p.other == n.boot {
		said := came{p.top: true}
		for i := range 64 {
			if p.came>>i&1 == 1 {
				said[p.top-1-i] = true
			}
		}
		n.waits = slices.DeleteFunc(n.waits, func(w parts) bool { return said.has(w.number) })
	}
	if p.boot < n.other || p.number == 0 && p.boot <= n.other {
		return "", false
	}
	if p.boot > n.other {
		n.other, n.came = p.boot, came{}
	}
	if p.number == 0 || n.came.has(p.number) {
		return "", false
	}
	n.came[p.number] = true
	return p.text, true
}

// receive has a datagram that is right, in its form, come, and tells what is told.
func (n *node) receive(b []byte) (string, bool) {
	n.t.Helper()
	p := cut(b)
	want, err := "", wrong(p)
	told := false
	if err == api.OK {
		want, told = n.hears(p)
	}
	got, is, e := n.s.Receive(b)
	if string(got) != want || is != told || e != err || !is && got != nil {
		n.t.Fatalf("Receive(%+v) = %v, %v, %v, not %q, %v, %v", p, got, is, e, want, told, err)
	}
	n.holds()
	return want, told
}

// line is two nodes, and what is on its way to each of them.
type line struct {
	t     *testing.T
	r     *rand.Rand
	nodes [2]*node
	boots [2]int
	way   [2][][]byte
	told  map[string]bool // which texts were told to which session
	all   map[string]bool // the texts that were sent
}

// text tells a text that was never sent, and will be.
func (l *line) text() string {
	text := fmt.Sprint("text ", len(l.all), strings.Repeat("!", l.r.Intn(100)))
	l.all[text] = true
	return text
}

// put puts datagrams on their way to a node, each never, once or twice.
func (l *line) put(to int, all ...[]byte) {
	for _, b := range all {
		for range []int{0, 1, 1, 1, 2}[l.r.Intn(5)] {
			l.way[to] = append(l.way[to], b)
		}
	}
}

// arrive has one of those that are on their way to a node come there, not always the first one, and maybe stay on its way.
func (l *line) arrive(to int) {
	if len(l.way[to]) == 0 {
		return
	}
	i := l.r.Intn(len(l.way[to]))
	if l.r.Intn(2) == 0 {
		i = 0
	}
	b := l.way[to][i]
	if l.r.Intn(8) != 0 {
		l.way[to] = slices.Delete(l.way[to], i, i+1)
	}
	l.hear(to, b)
}

// hear has a datagram come to a node, and holds that what it tells was sent, and was not told to that session ahead of this (P13.4).
func (l *line) hear(to int, b []byte) {
	text, told := l.nodes[to].receive(b)
	if !told {
		return
	}
	key := fmt.Sprint(to, " ", l.boots[to], " ", text)
	if l.told[key] || !l.all[text] {
		l.t.Fatalf("node %d of the boot %d is told %q, which was told already, or never sent", to, l.boots[to], text)
	}
	l.told[key] = true
}

// step does one thing, of all that may be.
func (l *line) step() {
	at := l.r.Intn(2)
	n := l.nodes[at]
	switch l.r.Intn(12) {
	case 0, 1, 2:
		l.put(1-at, n.send(l.text()))
	case 3:
		b, _ := n.s.Ack()
		l.put(1-at, b)
	case 4:
		l.put(1-at, n.s.Resend()...)
	case 5:
		if l.r.Intn(30) == 0 {
			l.boots[at] += 1 + l.r.Intn(3)
			l.nodes[at] = opened(l.t, l.boots[at])
		}
	case 6:
		l.spoil(at)
	default:
		l.arrive(at)
	}
	l.nodes[at].holds()
}

// spoil has bytes come that are no datagram: of one that is on its way, with a bit turned.
func (l *line) spoil(at int) {
	if len(l.way[at]) == 0 {
		return
	}
	b := slices.Clone(l.way[at][0])
	b[l.r.Intn(len(b))] ^= 1 << l.r.Intn(8)
	if got, told, err := l.nodes[at].s.Receive(b); got != nil || told || err == api.OK {
		l.t.Fatalf("Receive(%v) = %v, %v, %v", b, got, told, err)
	}
}

// calm holds P13.5 from one node to the other one: all that Resend tells arrives, in an order, and has come; then an Ack, or a payload, and none waits.
func (l *line) calm(from int) {
	l.t.Helper()
	a, b := l.nodes[from], l.nodes[1-from]
	l.way = [2][][]byte{}
	all := a.s.Resend()
	for _, i := range l.r.Perm(len(all)) {
		l.hear(1-from, all[i])
	}
	for _, x := range all {
		silent(l.t, b.s, x)
	}
	answer, _ := b.s.Ack()
	if l.r.Intn(2) == 0 {
		answer = b.send(l.text())
	}
	l.hear(from, answer)
	if a.s.Waiting() != 0 {
		l.t.Fatalf("%d wait, though all has come, and that was told", a.s.Waiting())
	}
}

// P13.4, P13.5, and all of P13.1 to P13.3: two nodes, which are opened anew now and then, between which datagrams are lost, doubled, turned about and sent again, beside the document's words.
func TestTwoNodesOverABadLine(t *testing.T) {
	for seed := range 40 {
		r := chance(int64(seed))
		l := &line{t: t, r: r, boots: [2]int{1 + r.Intn(3), 1 + r.Intn(3)}, told: map[string]bool{}, all: map[string]bool{}}
		for at := range l.nodes {
			l.nodes[at] = opened(t, l.boots[at])
		}
		for i := range 1500 {
			l.step()
			if i%200 == 199 {
				l.calm(r.Intn(2))
			}
		}
		l.calm(0)
		l.calm(1)
		if len(l.told) < 50 {
			t.Fatalf("only %d payloads were told", len(l.told))
		}
	}
}

// P13.3: a session to which any datagrams come, of few boots and numbers, right and wrong, beside the document's words.
func TestAnyDatagrams(t *testing.T) {
	for seed := range 200 {
		r := chance(int64(1000 + seed))
		n := opened(t, 1+r.Intn(3))
		low := func() int { return []int{0, 1, 2, 3, 4, 20, 70, 90, last, last + 1}[r.Intn(10-r.Intn(9))] }
		for range 150 {
			switch r.Intn(4) {
			case 0:
				n.send(strings.Repeat("x", r.Intn(170)))
			default:
				p := parts{boot: 1 + r.Intn(2), number: r.Intn(100), other: n.boot, top: max(0, n.sent-r.Intn(20)), came: r.Uint64(), text: strings.Repeat("y", r.Intn(60))}
				switch r.Intn(8) {
				case 0:
					p.boot = low()
				case 1:
					p.other = low()
				case 2:
					p.top = low()
				case 3:
					p.number = low()
				case 4:
					p.number, p.text = 0, ""
				case 5:
					p.text = strings.Repeat("z", r.Intn(168))
				}
				n.receive(p.bytes())
			}
		}
	}
}

// P13.4: of all that one session sends, by Send and by Resend, each is told just once, as it was, in which order and how often soever it comes.
func TestEachIsToldOnce(t *testing.T) {
	r := chance(5)
	for range 30 {
		a, b := made(t, 1), made(t, 2)
		var way, want, got [][]byte
		for range 60 {
			text := append(wild(r, r.Intn(most-2)), byte(len(want)))
			want = append(want, text)
			x, _ := a.Send(text)
			way = append(way, x)
			way = append(way, a.Resend()...)
		}
		r.Shuffle(len(way), func(i, j int) { way[i], way[j] = way[j], way[i] })
		for _, x := range way {
			if text, told, err := b.Receive(x); told {
				got = append(got, text)
			} else if text != nil || err != api.OK {
				t.Fatalf("Receive = %v, %v, %v", text, told, err)
			}
		}
		slices.SortFunc(got, func(x, y []byte) int { return int(x[len(x)-1]) - int(y[len(y)-1]) })
		if !slices.EqualFunc(got, want, bytes.Equal) {
			t.Fatalf("%v was told, not %v", got, want)
		}
	}
}

// P13.5: how many soever wait, and whatever came ahead: when all that Resend tells arrives, all that wait have come, and the next Ack, or the next payload, takes all away.
func TestNoneWaitsBehindAResend(t *testing.T) {
	for many := range 100 {
		for every := 1; every <= 20; every++ {
			a, b := made(t, 1), made(t, 2)
			for i := range many {
				x, _ := a.Send([]byte{byte(i)})
				if i%every == 0 {
					tells(t, b, x, string([]byte{byte(i)}))
				}
			}
			all := a.Resend()
			for _, x := range all {
				b.Receive(x)
			}
			for _, x := range all {
				silent(t, b, x)
			}
			if every%2 == 0 {
				ack, _ := b.Ack()
				silent(t, a, ack)
			} else {
				x, _ := b.Send([]byte("back"))
				tells(t, a, x, "back")
			}
			resends(t, a)
		}
	}
}

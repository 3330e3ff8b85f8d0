package session_test

import (
	"fmt"
	"testing"

	"tandem/session"
)

// came is what the document says of the numbers that came, as a set that forgets nothing.
type came map[int]bool

// top tells the greatest one.
func (c came) top() int {
	top := 0
	for number := range c {
		top = max(top, number)
	}
	return top
}

// has tells whether a number has come.
func (c came) has(number int) bool {
	top := c.top()
	return number == top || number < top-64 || c[number]
}

// word tells which of the 64 below the top came.
func (c came) word() uint64 {
	word := uint64(0)
	top := c.top()
	for i := range 64 {
		if c[top-1-i] {
			word |= 1 << i
		}
	}
	return word
}

// comes has a number come to a session of the boot 5, of the other one's boot 3, and holds what is told, and what Ack tells, against the set.
func comes(t *testing.T, s *session.Session, c came, number int) {
	t.Helper()
	text := fmt.Sprint("payload ", number)
	b := parts{boot: 3, number: number, text: text}.bytes()
	if c.has(number) {
		silent(t, s, b)
	} else {
		tells(t, s, b, text)
		c[number] = true
	}
	acks(t, s, parts{boot: 5, other: 3, top: c.top(), came: c.word()})
}

// P13.3: a number that is the top, is so much more, or so much less, each once and again: with nothing, with the top alone and with many come.
func TestNumbersAroundTheTop(t *testing.T) {
	from := []int{0, 1, 2, 3, 31, 32, 33, 62, 63, 64, 65, 66, 67, 100, 126, 127, 128, 129, 130, 1000, 1 << 32}
	for _, top := range []int{1, 2, 10, 64, 65, 66, 100, 1000, 1<<32 + 7, last - 130, last - 64, last - 1, last} {
		for _, ahead := range [][]int{{}, {1}, {64}, {65}, {1, 2, 5, 31, 32, 62, 63, 64}} {
			for _, away := range from {
				for _, number := range []int{top + away, top - away} {
					if number < 1 || number > last {
						continue
					}
					s, c := made(t, 5), came{}
					for _, less := range ahead {
						if top-less > 0 {
							comes(t, s, c, top-less)
						}
					}
					comes(t, s, c, top)
					comes(t, s, c, number)
					comes(t, s, c, number)
					comes(t, s, c, top)
				}
			}
		}
	}
}

// P13.3: numbers that come one behind the other, falling, and by steps, each twice.
func TestNumbersInRows(t *testing.T) {
	for _, step := range []int{1, 2, 3, 7, 31, 32, 33, 63, 64, 65, 66, 1000, last / 200} {
		up, c := made(t, 5), came{}
		for i := range 140 {
			comes(t, up, c, 1+step*i)
			comes(t, up, c, 1+step*i)
		}
		down, c := made(t, 5), came{}
		for i := range 140 {
			comes(t, down, c, 1+step*(139-i))
			comes(t, down, c, 1+step*(139-i))
		}
	}
}

// P13.3, P13.4: 40 to 65 numbers in any order are told each just once, however often they come.
func TestNumbersInAnyOrder(t *testing.T) {
	r := chance(3)
	for _, many := range []int{40, 50, 64, 65} {
		for _, start := range []int{0, 1, 77, 1 << 33, last - 65} {
			for range 30 {
				s, c, told := made(t, 5), came{}, 0
				order := append(r.Perm(many), r.Perm(many)...)
				if r.Intn(2) == 0 {
					r.Shuffle(len(order), func(i, j int) { order[i], order[j] = order[j], order[i] })
				}
				for _, i := range order {
					before := len(c)
					comes(t, s, c, start+i+1)
					told += len(c) - before
				}
				if told != many {
					t.Fatalf("%d of %d numbers behind %d were told, in the order %v", told, many, start, order)
				}
			}
		}
	}
}

// P13.3, P13.4: numbers without a pattern, near the top and far from it: each told at most once.
func TestNumbersWithoutAPattern(t *testing.T) {
	r := chance(4)
	for range 60 {
		s, c := made(t, 5), came{}
		at := 1 + r.Intn(200)
		spread := []int{3, 20, 70, 140, 1 << 20, last}[r.Intn(6)]
		for range 150 {
			comes(t, s, c, max(1, min(last, at+r.Intn(2*spread)-spread)))
			at = max(1, c.top()-r.Intn(80))
		}
	}
}

// P13.2, P13.3: no more than 64 below the top are told by Ack, and nothing of what is no number: from 1 on.
func TestWhichCameOfTheFirstNumbers(t *testing.T) {
	for top := 1; top <= 70; top++ {
		s := made(t, 5)
		tells(t, s, parts{boot: 3, number: top, text: "x"}.bytes(), "x")
		acks(t, s, parts{boot: 5, other: 3, top: top})
		var want uint64
		for number := top - 1; number >= 1; number-- {
			if top-number <= 64 {
				tells(t, s, parts{boot: 3, number: number, text: "x"}.bytes(), "x")
				want |= 1 << (top - 1 - number)
			} else {
				silent(t, s, parts{boot: 3, number: number, text: "x"}.bytes())
			}
			acks(t, s, parts{boot: 5, other: 3, top: top, came: want})
		}
	}
}

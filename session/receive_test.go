package session_test

import (
	"bytes"
	"slices"
	"strings"
	"testing"

	"tandem/api"
	"tandem/session"
)

// spoiled is bytes that are no datagram, and the error of frame.Get's fault.
type spoiled struct {
	what string
	b    []byte
	err  api.Errno
}

// allSpoiled tells a datagram made wrong by each of frame.Get's faults, all else being as it was; the checksum, too, where it is not what is wrong.
func allSpoiled(right []byte) []spoiled {
	with := func(at int, c byte) []byte {
		b := slices.Clone(right)
		b[at] = c
		return b
	}
	anew := func(at int, c byte) []byte { return sealed(with(at, c)[:len(right)-4]) }
	return []spoiled{
		{"no bytes", nil, api.ErrBytes},
		{"eight bytes", right[:8], api.ErrBytes},
		{"another first byte", anew(0, 85), api.ErrMagic},
		{"another second byte", anew(1, 84), api.ErrMagic},
		{"version 0", anew(2, 0), api.ErrVersion},
		{"version 2", anew(2, 2), api.ErrVersion},
		{"201 bytes, as it says", anew(3, 201), api.ErrLong},
		{"256 bytes and more, as it says", anew(4, 1), api.ErrLong},
		{"a byte fewer than it says", right[:len(right)-1], api.ErrBytes},
		{"a byte more than it says", append(slices.Clone(right), 0), api.ErrBytes},
		{"another checksum", with(len(right)-1, right[len(right)-1]^1), api.ErrCorrupt},
		{"another number", with(12, right[12]^1), api.ErrCorrupt},
	}
}

// said tells a datagram that would have much to say to a busy session: that all has come, of a payload that has not, of a greater boot.
func said() parts {
	return parts{boot: 4, number: 80, other: 5, top: 20, came: 1<<64 - 1, text: "hear"}
}

// unheard holds that a busy session refuses bytes, and that this changes nothing: what is right is heard as if they had never come.
func unheard(t *testing.T, what string, b []byte, want api.Errno) {
	t.Helper()
	s := busy(t)
	before := seen(t, s)
	refuses(t, s, b, want)
	refuses(t, s, b, want)
	if !same(seen(t, s), before) {
		t.Fatalf("%s: what is refused changes the session", what)
	}
	tells(t, s, parts{boot: 3, number: 71, text: "x"}.bytes(), "x")
	sends(t, s, parts{boot: 5, number: 21, other: 3, top: 72, came: busyAck.came | 1, text: "next"})
}

// P13.3: bytes that are no datagram are told the error of frame.Get's fault, and change nothing.
func TestReceiveOfWhatIsNoDatagram(t *testing.T) {
	for _, w := range allSpoiled(said().bytes()) {
		unheard(t, w.what, w.b, w.err)
	}
	s := made(t, 5)
	r := chance(2)
	for range 2000 {
		b := wild(r, r.Intn(220))
		if got, told, err := s.Receive(b); got != nil || told || err == api.OK {
			t.Fatalf("Receive(%v) = %v, %v, %v", b, got, told, err)
		}
	}
	tells(t, s, said().bytes(), "hear")
}

// P13.3: a datagram that carries fewer than 32 bytes is told ErrBytes, whatever they are.
func TestReceiveOfTooFew(t *testing.T) {
	whole := said().with(0, "").carried()
	great := bytes.Repeat([]byte{255}, head)
	for size := range head {
		unheard(t, "too few", framed(whole[:size]), api.ErrBytes)
		unheard(t, "too few, and too great", framed(great[:size]), api.ErrBytes)
		unheard(t, "too few noughts", framed(make([]byte, size)), api.ErrBytes)
	}
	s := busy(t)
	silent(t, s, framed(whole))
	resends(t, s)
}

// P13.3: numbers up to 2^40 are right, greater ones are told ErrRange, each of them alone; which came may be any word.
func TestReceiveOfGreatNumbers(t *testing.T) {
	for _, n := range []int{last + 1, last + 2, last + 255, 1 << 41, 3 << 40, 1 << 47, beyond - 1, beyond} {
		for what, p := range map[string]parts{
			"boot":   {boot: n, number: 80, other: 5, top: 20, came: 1<<64 - 1, text: "x"},
			"number": {boot: 4, number: n, other: 5, top: 20, came: 1<<64 - 1, text: "x"},
			"other":  {boot: 4, number: 80, other: n, top: 20, came: 1<<64 - 1, text: "x"},
			"top":    {boot: 4, number: 80, other: 5, top: n, came: 1<<64 - 1, text: "x"},
		} {
			unheard(t, what, p.bytes(), api.ErrRange)
			p.text = ""
			unheard(t, what, p.bytes(), api.ErrRange)
			if what != "number" {
				p.number = 0
				unheard(t, what, p.bytes(), api.ErrRange)
			}
		}
	}
	for _, n := range []int{1, 1 << 39, last - 1, last} {
		for _, p := range []parts{{boot: n, number: 80}, {boot: 4, number: n}, {boot: 4, number: 80, other: n}, {boot: 4, number: 80, top: n}, {n, n, n, n, 1<<64 - 1, ""}} {
			p.text = "right"
			tells(t, made(t, 5), p.bytes(), "right")
		}
	}
	for _, came := range []uint64{last + 1, 1 << 63, 1<<64 - 1} {
		tells(t, made(t, 5), parts{boot: 1, number: 1, other: 5, top: 1, came: came, text: "right"}.bytes(), "right")
	}
}

// P13.3: the boot 0 is told ErrRange, whatever else is said.
func TestReceiveOfTheBootNought(t *testing.T) {
	p := said()
	p.boot = 0
	unheard(t, "the boot 0", p.bytes(), api.ErrRange)
	unheard(t, "the boot 0, no payload", p.with(0, "").bytes(), api.ErrRange)
	noughts := framed(make([]byte, head))
	unheard(t, "all noughts", noughts, api.ErrRange)
	for _, b := range [][]byte{p.bytes(), p.with(0, "").bytes(), noughts} {
		s := made(t, 5)
		refuses(t, s, b, api.ErrRange)
		acks(t, s, parts{boot: 5})
	}
}

// P13.3: 160 bytes behind the numbers are right, more are told ErrRange.
func TestReceiveOfTooLong(t *testing.T) {
	for size := most + 1; size <= 200-head; size++ {
		unheard(t, "too long", said().with(80, strings.Repeat("x", size)).bytes(), api.ErrRange)
		unheard(t, "too long", said().with(0, strings.Repeat("x", size)).bytes(), api.ErrRange)
	}
	for size := range most + 1 {
		text := strings.Repeat("y", size)
		tells(t, busy(t), said().with(80, text).bytes(), text)
	}
	unheard(t, "too long for a datagram", said().with(80, strings.Repeat("x", 201-head)).bytes(), api.ErrLong)
}

// P13.3: with the number 0 any byte behind the numbers is told ErrRange.
func TestReceiveOfBytesWithoutANumber(t *testing.T) {
	for size := 1; size <= most; size++ {
		unheard(t, "bytes without a number", said().with(0, strings.Repeat("\x00", size)).bytes(), api.ErrRange)
	}
	p := said().with(0, "x")
	for _, boot := range []int{1, 2, 3, 4, last} {
		p.boot = boot
		unheard(t, "bytes without a number", p.bytes(), api.ErrRange)
	}
	s := busy(t)
	silent(t, s, said().with(0, "").bytes())
	resends(t, s)
}

// P13.3: of two faults in one datagram that is told which the promise names ahead: a session that is nil, each fault of frame.Get, too few bytes, what is out of range.
func TestReceiveOfTwoFaults(t *testing.T) {
	wrongRange := parts{boot: 0, number: 0, other: 5, top: last + 1, came: 1<<64 - 1, text: strings.Repeat("x", most+1)}.bytes()
	tooFew := framed(bytes.Repeat([]byte{255}, head-1))
	for _, right := range [][]byte{wrongRange, tooFew} {
		for _, w := range allSpoiled(right) {
			unheard(t, w.what, w.b, w.err)
			refuses(t, nil, w.b, api.ErrNil)
			refuses(t, &session.Session{}, w.b, api.ErrNil)
		}
		refuses(t, nil, right, api.ErrNil)
	}
	unheard(t, "too few, of great numbers", tooFew, api.ErrBytes)
	unheard(t, "too few, of the boot 0", framed(make([]byte, head-1)), api.ErrBytes)
	unheard(t, "the boot 0, a great top, too many bytes, and no number", wrongRange, api.ErrRange)
	corrupt := slices.Clone(tooFew)
	corrupt[10] ^= 1
	unheard(t, "too few, with a wrong checksum", corrupt, api.ErrCorrupt)
}

// P13.3: what it says has come no longer waits: the top, each of the 64 below that came, and all that are lower than these; what is above the top waits.
func TestWhatHasComeWaitsNoMore(t *testing.T) {
	for _, start := range []int{0, 1, 5, 48, 60, 100, 1000, last - again} {
		for _, top := range []int{0, 1, start, start + 1, start + 2, start + 8, start + 15, start + 16, start + 17, start + 40, start + 63, start + 64, start + 65, start + 66, start + 72, start + 79, start + 80, start + 81, start + 100, last} {
			if top > last {
				continue
			}
			cames := []uint64{0, 1<<64 - 1, 0x5555555555555555, 0xaaaaaaaaaaaaaaaa}
			for bit := range 64 {
				cames = append(cames, 1<<bit, ^(1 << bit))
			}
			for _, came := range cames {
				takesAway(t, start, parts{boot: 1, other: 7, top: top, came: came})
			}
		}
	}
}

// takesAway holds what waits behind a datagram, of the 16 payloads behind a number, against the document's words.
func takesAway(t *testing.T, start int, p parts) {
	t.Helper()
	s := made(t, 7)
	session.SetSent(s, start)
	sent(t, s, again)
	var want []int
	for number := start + 1; number <= start+again; number++ {
		below := p.top - number
		if below < 0 || below > 0 && below <= 64 && p.came>>(below-1)&1 == 0 {
			want = append(want, number)
		}
	}
	silent(t, s, p.bytes())
	if got := waits(s); !slices.Equal(got, want) || s.Waiting() != len(want) {
		t.Fatalf("%+v: there wait %v of %d .. %d, not %v", p, got, start+1, start+again, want)
	}
}

// P13.3: what is said of another boot takes nothing away.
func TestWhatIsSaidOfAnotherBoot(t *testing.T) {
	for _, other := range []int{0, 1, 4, 6, 5 + 256, last} {
		s := made(t, 5)
		sent(t, s, 3)
		silent(t, s, parts{boot: 1, other: other, top: 3, came: 3}.bytes())
		tells(t, s, parts{boot: 1, number: 1, other: other, top: 100, came: 1<<64 - 1, text: "x"}.bytes(), "x")
		silent(t, s, parts{boot: 1, number: 1, other: other, top: last, text: "x"}.bytes())
		if got := waits(s); !slices.Equal(got, []int{1, 2, 3}) {
			t.Fatalf("of the boot %d: there wait %v", other, got)
		}
	}
}

// P13.3: a datagram still takes away what has come where it is of a lower boot, was told already, or has no payload.
func TestWhatIsSaidIsHeardThoughNothingIsTold(t *testing.T) {
	for _, p := range []parts{
		{boot: 2, number: 90, text: "x"}, {boot: 1, number: 1, text: "x"}, {boot: 2}, // lower boots
		{boot: 3, number: 72, text: "abcd"}, {boot: 3, number: 8, text: "x"}, {boot: 3, number: 7, text: "x"}, // came, or lower than all
		{boot: 3}, {boot: 4}, // no payload
	} {
		s := busy(t)
		p.other, p.top, p.came = 5, 18, 1<<0|1<<(17-6)
		silent(t, s, p.bytes())
		want := []int{5, 8, 9, 10, 11, 12, 13, 14, 15, 16, 19}
		if got := waits(s); !slices.Equal(got, want) {
			t.Fatalf("%+v: there wait %v, not %v", p, got, want)
		}
	}
}

// P13.3: a boot lower than the other one's, the same and a greater one, each with no number, one that has come, one that has not, and one lower than all.
func TestReceiveOfBoots(t *testing.T) {
	began := func(boot, number int) parts { return parts{boot: 5, other: boot, top: number} }
	came := busyAck
	came.came |= 1 << (71 - 40)
	for _, x := range []struct {
		boot, number int
		told         bool
		ack          parts
	}{
		{1, 0, false, busyAck}, {1, 72, false, busyAck}, {1, 40, false, busyAck}, {1, 73, false, busyAck}, {1, 7, false, busyAck},
		{2, 0, false, busyAck}, {2, 72, false, busyAck}, {2, 40, false, busyAck}, {2, 73, false, busyAck}, {2, 7, false, busyAck},
		{3, 0, false, busyAck}, {3, 72, false, busyAck}, {3, 70, false, busyAck}, {3, 8, false, busyAck}, {3, 7, false, busyAck}, {3, 40, true, came},
		{3, 73, true, parts{boot: 5, other: 3, top: 73, came: 1 | 1<<2}},
		{4, 0, false, began(4, 0)}, {4, 72, true, began(4, 72)}, {4, 70, true, began(4, 70)}, {4, 1, true, began(4, 1)}, {4, 7, true, began(4, 7)}, {4, 73, true, began(4, 73)}, {4, last, true, began(4, last)},
		{last, 0, false, began(last, 0)}, {last, 40, true, began(last, 40)},
	} {
		s := busy(t)
		p := parts{boot: x.boot, number: x.number}
		if x.number > 0 {
			p.text = "hear"
		}
		if x.told {
			tells(t, s, p.bytes(), "hear")
		} else {
			silent(t, s, p.bytes())
		}
		acks(t, s, x.ack)
		silent(t, s, p.bytes())
		acks(t, s, x.ack)
		if s.Waiting() != 14 {
			t.Fatalf("%+v takes away what waits: %d", x, s.Waiting())
		}
	}
}

// P13.3: a greater boot begins anew: what came of a lower one comes again, and what is of a lower one is told no more.
func TestAGreaterBootBeginsAnew(t *testing.T) {
	s := made(t, 5)
	for _, boot := range []int{2, 3, 7, 100, last} {
		for number := 1; number <= 5; number++ {
			p := parts{boot: boot, number: number, text: "x"}
			tells(t, s, p.bytes(), "x")
			silent(t, s, p.bytes())
		}
		for number := range 10 {
			p := parts{boot: boot - 1, number: number}
			silent(t, s, p.bytes())
			p.boot = 1
			silent(t, s, p.bytes())
		}
		acks(t, s, parts{boot: 5, other: boot, top: 5, came: 15})
	}
}

package session

import (
	"tandem/api"
	"tandem/fixed"
	"tandem/frame"
)

// How many bytes a datagram's numbers have, how many it has, and how many bytes stand ahead of its payload.
const (
	numberSize = 6
	many       = 4
	headSize   = many*numberSize + 64/8
)

// known is what a node knows of another one.
type known struct {
	boot int    // 0: none came
	top  int    // the greatest number that came with that boot; 0: none came
	came uint64 // which of the 64 numbers below the top came: bit i is that of top less 1 less i
}

// has tells whether a number, from 1 on, has come.
func (k known) has(number int) bool {
	below := k.top - number
	switch {
	case below < 0:
		return false
	case below == 0, below > 64:
		return true
	}
	return k.came>>(below-1)&1 == 1
}

// with tells what is known when a number comes that has not.
func (k known) with(number int) known {
	if number < k.top {
		k.came |= 1 << (k.top - 1 - number)
		return k
	}
	past := number - k.top
	k.came <<= past
	if k.top > 0 { // 0 is no number that came
		k.came |= 1 << (past - 1)
	}
	k.top = number
	return k
}

// datagram is what one carries: the number is 0 if there is no payload.
type datagram struct {
	boot, number int
	other        known // what its sender knows of whom it goes to
	payload      []byte
}

// numbers tells where a datagram's numbers stand, in the order in which it carries them.
func (d *datagram) numbers() [many]*int {
	return [...]*int{&d.boot, &d.number, &d.other.boot, &d.other.top}
}

// bytes tells the bytes that a datagram is.
func (d datagram) bytes() []byte {
	var carried []byte
	for _, n := range d.numbers() {
		b, _ := fixed.Put(*n, numberSize)
		carried = append(carried, b...)
	}
	carried = append(carried, fixed.Long(d.other.came)...)
	b, _ := frame.Put(append(carried, d.payload...))
	return b
}

// mayBe tells whether a datagram's parts are within their bounds.
func (d datagram) mayBe() bool {
	for _, n := range d.numbers() {
		if *n > api.MaxTerm {
			return false
		}
	}
	most := api.MaxText
	if d.number == 0 {
		most = 0
	}
	return d.boot > 0 && len(d.payload) <= most
}

// read tells the datagram that bytes are.
func read(b []byte) (datagram, api.Errno) {
	carried, fault := frame.Get(b)
	if fault.Err != api.OK {
		return datagram{}, fault.Err
	}
	if len(carried) < headSize {
		return datagram{}, api.ErrBytes
	}
	var d datagram
	at := 0
	for _, n := range d.numbers() {
		*n, at, _ = fixed.Get(carried, at, numberSize)
	}
	d.other.came, at, _ = fixed.GetLong(carried, at)
	d.payload = carried[at:]
	if !d.mayBe() {
		return datagram{}, api.ErrRange
	}
	return d, api.OK
}

package msg_test

import (
	"bytes"
	"encoding/binary"
	"fmt"
	"math"
	"math/rand"
	"reflect"
	"testing"

	"tandem/api"
	"tandem/msg"
)

const most = 1 << 40

// layouts tells which parts the bytes of a message of each kind have behind the kind and the node, as the chapter's table names them.
var layouts = map[int][]string{
	1:  {"Term", "Rec.Term", "Rec.N", "Rec.Set", "Stamp"},
	2:  {"Term", "OK", "Stamp", "Rec.Term", "Rec.N", "Rec.Set"},
	3:  {"Term", "Stamp"},
	4:  {"Term", "OK", "Stamp"},
	5:  {"Term", "Rec.Term", "Rec.N", "Rec.Set"},
	6:  {"Term", "OK", "Rec.Term", "Rec.N", "Rec.Set"},
	7:  {"Term", "Seq", "Stamp", "Block", "Data"},
	8:  {"Term", "Seq", "OK", "Stamp"},
	9:  {"Term"},
	10: {"Term", "OK", "Stamp", "Bits"},
	11: {"Term", "Bits"},
}

// sizes tells how many bytes each part has, tops how great those are that are numbers.
var (
	sizes = map[string]int{"Term": 6, "Seq": 6, "Stamp": 6, "Block": 1, "OK": 1, "Rec.Term": 6, "Rec.N": 6, "Rec.Set": 1, "Bits": 8, "Data": 32}
	tops  = map[string]int{"Term": most, "Seq": most, "Stamp": most, "Block": 63, "Rec.Term": most, "Rec.N": most, "Rec.Set": 3}
)

// numbers tells the parts that are numbers, in an order of their own.
func numbers() []string {
	return []string{"Term", "Seq", "Stamp", "Block", "Rec.Term", "Rec.N", "Rec.Set"}
}

// number tells where a message has a part that is a number.
func number(m *api.Msg, name string) *int {
	switch name {
	case "Term":
		return &m.Term
	case "Seq":
		return &m.Seq
	case "Stamp":
		return &m.Stamp
	case "Block":
		return &m.Block
	case "Rec.Term":
		return &m.Rec.Term
	case "Rec.N":
		return &m.Rec.N
	case "Rec.Set":
		return &m.Rec.Set
	}
	panic(name)
}

// has tells whether a kind has a part.
func has(kind int, name string) bool {
	for _, p := range layouts[kind] {
		if p == name {
			return true
		}
	}
	return false
}

// where tells at which byte a part begins that a kind has.
func where(kind int, name string) int {
	at := 2
	for _, p := range layouts[kind] {
		if p == name {
			return at
		}
		at += sizes[p]
	}
	panic(name)
}

// low tells a number's lowest bytes.
func low(n uint64, size int) []byte { return binary.LittleEndian.AppendUint64(nil, n)[:size] }

// laid tells the bytes of a message that may be, by the library, so that it leans on none of what it is held against.
func laid(m api.Msg) []byte {
	b := []byte{byte(m.Kind), byte(m.From)}
	for _, p := range layouts[m.Kind] {
		switch {
		case p == "Data":
			b = append(b, m.Data...)
		case p == "Bits":
			b = append(b, low(m.Bits, 8)...)
		case p == "OK" && m.OK:
			b = append(b, 1)
		case p == "OK":
			b = append(b, 0)
		default:
			b = append(b, low(uint64(*number(&m, p)), sizes[p])...)
		}
	}
	return b
}

// mayBe tells whether the document has a message.
func mayBe(m api.Msg) bool {
	if m.Kind < 1 || m.Kind > 11 || m.From < 0 || m.From > 2 {
		return false
	}
	for _, p := range numbers() {
		if n := *number(&m, p); n != 0 && (!has(m.Kind, p) || n < 0 || n > tops[p]) {
			return false
		}
	}
	if m.OK && !has(m.Kind, "OK") || m.Bits != 0 && !has(m.Kind, "Bits") {
		return false
	}
	return has(m.Kind, "Data") && len(m.Data) == 32 || !has(m.Kind, "Data") && len(m.Data) == 0
}

// said tells what the document has Get tell of bytes.
func said(b []byte) (api.Msg, api.Fault) {
	short, none := api.Fault{Err: api.ErrBytes, At: len(b)}, api.Msg{}
	if len(b) < 2 {
		return none, short
	}
	m := api.Msg{Kind: int(b[0]), From: int(b[1])}
	if layouts[m.Kind] == nil {
		return none, api.Fault{Err: api.ErrMissing, At: 0}
	}
	if m.From > 2 {
		return none, api.Fault{Err: api.ErrRange, At: 1}
	}
	at := 2
	for _, p := range layouts[m.Kind] {
		end := at + sizes[p]
		if len(b) < end {
			return none, short
		}
		if !take(&m, p, b[at:end]) {
			return none, api.Fault{Err: api.ErrRange, At: at}
		}
		at = end
	}
	if at < len(b) {
		return none, api.Fault{Err: api.ErrBytes, At: at}
	}
	return m, api.Fault{}
}

// take lets a message have a part that bytes say; it tells whether the message may.
func take(m *api.Msg, name string, b []byte) bool {
	n := binary.LittleEndian.Uint64(append(append([]byte{}, b...), make([]byte, 8)...))
	switch name {
	case "Data":
		m.Data = append([]byte{}, b...)
	case "Bits":
		m.Bits = n
	case "OK":
		m.OK = n == 1
		return n <= 1
	default:
		*number(m, name) = int(n)
		return n <= uint64(tops[name])
	}
	return true
}

// filled tells 32 bytes that rise by one each, none of them nought; unlike seeds below 255 have unlike bytes everywhere.
func filled(seed int) []byte {
	b := make([]byte, 32)
	for i := range b {
		b[i] = byte(1 + (i+37*seed)%255)
	}
	return b
}

// with tells a message that has, of what its kind has, these numbers, as far as they may be, and all else.
func with(kind, from int, n func(name string) int, ok bool, bits uint64, data []byte) api.Msg {
	m := api.Msg{Kind: kind, From: from}
	for _, p := range layouts[kind] {
		switch p {
		case "Data":
			m.Data = append([]byte{}, data...)
		case "Bits":
			m.Bits = bits
		case "OK":
			m.OK = ok
		default:
			*number(&m, p) = min(n(p), tops[p])
		}
	}
	return m
}

// ordinary tells a message of a kind, of which each part is unlike each other one.
func ordinary(kind int) api.Msg {
	n := map[string]int{"Term": 0x0102030405, "Seq": 0x1112131415, "Stamp": 0x2122232425, "Block": 37, "Rec.Term": 0x3132333435, "Rec.N": 0x4142434445, "Rec.Set": 2}
	return with(kind, kind%3, func(name string) int { return n[name] }, true, 0x5152535455565758, filled(kind))
}

// least and greatest tell the messages of a kind of which each part is at its lower, and at its upper bound.
func least(kind int) api.Msg {
	return with(kind, 0, func(string) int { return 0 }, false, 0, make([]byte, 32))
}

func greatest(kind int) api.Msg {
	return with(kind, 2, func(string) int { return most }, true, math.MaxUint64, bytes.Repeat([]byte{255}, 32))
}

// edges tells messages of a kind that may be: ordinary ones, all at a bound, and each part by itself at each of its bounds and beside them, with all else at either bound.
func edges(kind int) []api.Msg {
	var l []api.Msg
	for _, about := range []api.Msg{ordinary(kind), least(kind), greatest(kind)} {
		l = append(l, about)
		vary := func(change func(m *api.Msg)) {
			m := about
			change(&m)
			l = append(l, m)
		}
		for from := range 3 {
			vary(func(m *api.Msg) { m.From = from })
		}
		for _, p := range layouts[kind] {
			switch p {
			case "Data":
				for _, data := range [][]byte{make([]byte, 32), bytes.Repeat([]byte{255}, 32), filled(0)} {
					vary(func(m *api.Msg) { m.Data = data })
				}
			case "Bits":
				for _, bits := range []uint64{0, 1, 1 << 63, math.MaxUint64, math.MaxInt64, 1 << 40, 1<<40 + 1} {
					vary(func(m *api.Msg) { m.Bits = bits })
				}
			case "OK":
				vary(func(m *api.Msg) { m.OK = !m.OK })
			default:
				for _, n := range []int{0, 1, 2, tops[p] / 2, tops[p] - 1, tops[p]} {
					vary(func(m *api.Msg) { *number(m, p) = n })
				}
			}
		}
	}
	return l
}

// kinds tells all kinds that there are, rising.
func kinds() []int { return []int{1, 2, 3, 4, 5, 6, 7, 8, 9, 10, 11} }

// chance tells a source of numbers without a pattern, the same in every run.
func chance(seed int64) *rand.Rand { return rand.New(rand.NewSource(seed)) }

// wild tells a message that may be, of a kind, without a pattern; its numbers have any length.
func wild(r *rand.Rand, kind int) api.Msg {
	data := make([]byte, 32)
	r.Read(data)
	n := func(name string) int { return r.Intn(tops[name]+1) >> r.Intn(41) }
	return with(kind, r.Intn(3), n, r.Intn(2) == 1, r.Uint64()>>r.Intn(64), data)
}

// same tells whether two messages are the same; a list of nothing is the same, nil or not.
func same(a, b api.Msg) bool {
	first, second := a.Data, b.Data
	a.Data, b.Data = nil, nil
	return reflect.DeepEqual(a, b) && bytes.Equal(first, second)
}

// show tells a message in a text.
func show(m api.Msg) string { return fmt.Sprintf("%+v", m) }

// puts holds what Put and Check answer of a message that may be against the bytes that are asked for.
func puts(t *testing.T, m api.Msg, want []byte) {
	t.Helper()
	if err := msg.Check(m); err != api.OK {
		t.Errorf("Check(%s) = %v", show(m), err)
	}
	if got, err := msg.Put(m); !bytes.Equal(got, want) || err != api.OK {
		t.Errorf("Put(%s) = %v, %v, not %v", show(m), got, err, want)
	}
}

// refused holds what Put and Check answer of a message that may not be.
func refused(t *testing.T, m api.Msg) {
	t.Helper()
	if err := msg.Check(m); err != api.ErrArg {
		t.Errorf("Check(%s) = %v", show(m), err)
	}
	if got, err := msg.Put(m); len(got) != 0 || err != api.ErrArg {
		t.Errorf("Put(%s) = %v, %v, not nothing, ErrArg", show(m), got, err)
	}
}

// gets holds what Get answers of the bytes of a message against that.
func gets(t *testing.T, b []byte, want api.Msg) {
	t.Helper()
	if got, fault := msg.Get(b); !same(got, want) || fault != (api.Fault{}) {
		t.Errorf("Get(%v) = %s, %v, not %s", b, show(got), fault, show(want))
	}
}

// faults holds what Get answers of bytes that are no message's against the fault that is asked for.
func faults(t *testing.T, b []byte, err api.Errno, at int) {
	t.Helper()
	if got, fault := msg.Get(b); !same(got, api.Msg{}) || fault != (api.Fault{Err: err, At: at}) {
		t.Errorf("Get(%v) = %s, %v, not nothing, %v at %d", b, show(got), fault, err, at)
	}
}

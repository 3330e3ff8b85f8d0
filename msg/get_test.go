package msg_test

import (
	"bytes"
	"slices"
	"testing"

	"tandem/api"
	"tandem/msg"
)

// P11.2: the chapter's examples.
func TestExamplesOfGet(t *testing.T) {
	faults(t, []byte{9, 3}, api.ErrRange, 1)
	faults(t, []byte{9, 3, 1, 0, 0, 0, 0, 0}, api.ErrRange, 1)
	faults(t, []byte{0, 0}, api.ErrMissing, 0)
	faults(t, nil, api.ErrBytes, 0)
	faults(t, []byte{9, 1, 3, 0, 0}, api.ErrBytes, 5)
	faults(t, []byte{9, 1, 3, 0, 0, 0, 0, 0, 7}, api.ErrBytes, 8)
	faults(t, []byte{4, 0, 1, 0, 0, 0, 0, 0, 2}, api.ErrRange, 8)
	faults(t, []byte{4, 0, 1, 0, 0, 0, 0, 0, 2, 5, 0, 0, 0, 0, 0}, api.ErrRange, 8)
}

// P11.2: the messages of each kind, each part at each of its bounds and beside them, are told.
func TestGetOfEdges(t *testing.T) {
	for _, kind := range kinds() {
		for _, m := range edges(kind) {
			gets(t, laid(m), m)
		}
	}
}

// P11.2: bytes that end ahead of the kind, or of the node, are told at their end, whatever kind it be.
func TestGetOfNoNode(t *testing.T) {
	faults(t, nil, api.ErrBytes, 0)
	faults(t, []byte{}, api.ErrBytes, 0)
	for kind := range 256 {
		faults(t, []byte{byte(kind)}, api.ErrBytes, 1)
	}
}

// P11.2: a kind that there is not is told at 0, ahead of a node that there is not, and of all that stands behind.
func TestGetOfWrongKinds(t *testing.T) {
	for kind := range 256 {
		if kind >= 1 && kind <= 11 {
			continue
		}
		for _, from := range []byte{0, 1, 2, 3, 255} {
			for _, rest := range [][]byte{nil, {0}, make([]byte, 6), bytes.Repeat([]byte{255}, 6), make([]byte, 51), bytes.Repeat([]byte{255}, 300)} {
				faults(t, slices.Concat([]byte{byte(kind), from}, rest), api.ErrMissing, 0)
			}
		}
	}
}

// P11.2: a node that there is not is told at 1, ahead of all that stands behind it: nothing, too little, too much, or wrong bytes.
func TestGetFromNoNode(t *testing.T) {
	for _, kind := range kinds() {
		whole := laid(ordinary(kind))
		for from := 3; from < 256; from++ {
			whole[1] = byte(from)
			faults(t, whole[:2], api.ErrRange, 1)
			faults(t, whole[:3], api.ErrRange, 1)
			faults(t, whole[:len(whole)-1], api.ErrRange, 1)
			faults(t, whole, api.ErrRange, 1)
			faults(t, append(slices.Clone(whole), 0), api.ErrRange, 1)
			faults(t, slices.Concat(whole[:2], bytes.Repeat([]byte{255}, len(whole)-2)), api.ErrRange, 1)
		}
	}
}

// P11.2: bytes that are cut short at any place are told at their end, wherever the field that they end in begins.
func TestGetOfBytesCutShort(t *testing.T) {
	for _, kind := range kinds() {
		for _, m := range []api.Msg{ordinary(kind), least(kind), greatest(kind)} {
			b := laid(m)
			for end := range len(b) {
				faults(t, slices.Clone(b[:end]), api.ErrBytes, end)
			}
		}
	}
}

// P11.2: what is left behind a message is told at its first byte.
func TestGetOfBytesThatAreLeft(t *testing.T) {
	for _, kind := range kinds() {
		for _, m := range []api.Msg{ordinary(kind), least(kind), greatest(kind)} {
			b := laid(m)
			for c := range 256 {
				faults(t, append(slices.Clone(b), byte(c)), api.ErrBytes, len(b))
			}
			faults(t, slices.Concat(b, b), api.ErrBytes, len(b))
			faults(t, slices.Concat(b, make([]byte, 300)), api.ErrBytes, len(b))
		}
	}
}

// tooGreat tells bytes of a part that say what it may not have: one above the greatest, and more.
func tooGreat(name string) [][]byte {
	var l [][]byte
	switch name {
	case "Data", "Bits":
		return nil
	case "OK", "Block", "Rec.Set":
		for n := max(tops[name], 1) + 1; n < 256; n++ {
			l = append(l, []byte{byte(n)})
		}
		return l
	}
	for _, n := range []uint64{most + 1, most + 2, most + 256, 2*most - 1, 2 * most, 1<<47 + 1, 1<<48 - 1} {
		l = append(l, low(n, 6))
	}
	return l
}

// spoilt tells the bytes of a message in which a part has other bytes.
func spoilt(m api.Msg, name string, part []byte) []byte {
	b := laid(m)
	copy(b[where(m.Kind, name):], part)
	return b
}

// P11.2: a number above its greatest, and an OK that is neither 0 nor 1, is told at its first byte; of a record at the part's.
func TestGetOfPartsOutOfRange(t *testing.T) {
	for _, kind := range kinds() {
		for _, m := range []api.Msg{ordinary(kind), least(kind), greatest(kind)} {
			for _, p := range layouts[kind] {
				for _, part := range tooGreat(p) {
					faults(t, spoilt(m, p, part), api.ErrRange, where(kind, p))
				}
			}
		}
	}
}

// P11.2: where the parts begin, written out.
func TestPlacesOfParts(t *testing.T) {
	over := []byte{1, 0, 0, 0, 0, 1}
	for _, c := range []struct {
		kind int
		name string
		part []byte
		at   int
	}{
		{api.MsgAsk, "Term", over, 2}, {api.MsgAsk, "Rec.Term", over, 8}, {api.MsgAsk, "Rec.N", over, 14}, {api.MsgAsk, "Rec.Set", []byte{4}, 20}, {api.MsgAsk, "Stamp", over, 21},
		{api.MsgGrant, "Term", over, 2}, {api.MsgGrant, "OK", []byte{2}, 8}, {api.MsgGrant, "Stamp", over, 9}, {api.MsgGrant, "Rec.Term", over, 15}, {api.MsgGrant, "Rec.N", over, 21}, {api.MsgGrant, "Rec.Set", []byte{4}, 27},
		{api.MsgBeat, "Term", over, 2}, {api.MsgBeat, "Stamp", over, 8},
		{api.MsgBeatAck, "OK", []byte{2}, 8}, {api.MsgBeatAck, "Stamp", over, 9},
		{api.MsgNote, "Rec.Term", over, 8}, {api.MsgNote, "Rec.N", over, 14}, {api.MsgNote, "Rec.Set", []byte{4}, 20},
		{api.MsgNoteAck, "OK", []byte{2}, 8}, {api.MsgNoteAck, "Rec.Term", over, 9}, {api.MsgNoteAck, "Rec.N", over, 15}, {api.MsgNoteAck, "Rec.Set", []byte{4}, 21},
		{api.MsgWrite, "Seq", over, 8}, {api.MsgWrite, "Stamp", over, 14}, {api.MsgWrite, "Block", []byte{64}, 20},
		{api.MsgWriteAck, "Seq", over, 8}, {api.MsgWriteAck, "OK", []byte{2}, 14}, {api.MsgWriteAck, "Stamp", over, 15},
		{api.MsgMap, "Term", over, 2},
		{api.MsgMapAck, "OK", []byte{2}, 8}, {api.MsgMapAck, "Stamp", over, 9},
		{api.MsgClean, "Term", over, 2},
	} {
		faults(t, spoilt(ordinary(c.kind), c.name, c.part), api.ErrRange, c.at)
	}
}

// P11.2: of two parts that are out of range the first one is told, also of a record's.
func TestGetOfTwoPartsOutOfRange(t *testing.T) {
	for _, kind := range kinds() {
		for i, first := range layouts[kind] {
			for _, second := range layouts[kind][i+1:] {
				for _, a := range tooGreat(first) {
					for _, b := range tooGreat(second) {
						both := spoilt(ordinary(kind), first, a)
						copy(both[where(kind, second):], b)
						faults(t, both, api.ErrRange, where(kind, first))
					}
				}
			}
		}
	}
}

// P11.2: of bytes that have a part out of range and are cut short the first fault is told: their end, if they end ahead of the part or within it, else the part; and that, too, ahead of bytes that are left. The parts of a record go one by one, as fields do.
func TestGetOfAPartOutOfRangeAndTheWrongLength(t *testing.T) {
	for _, kind := range kinds() {
		for _, p := range layouts[kind] {
			at := where(kind, p)
			for _, part := range tooGreat(p) {
				b := spoilt(ordinary(kind), p, part)
				for end := range len(b) {
					if end < at+sizes[p] {
						faults(t, slices.Clone(b[:end]), api.ErrBytes, end)
					} else {
						faults(t, slices.Clone(b[:end]), api.ErrRange, at)
					}
				}
				faults(t, append(b, 0), api.ErrRange, at)
			}
		}
	}
}

// P11.2: Get tells what the document has, of bytes without a pattern, of messages' bytes of which some are others, and of such cut short.
func TestGetAgainstTheDocument(t *testing.T) {
	r := chance(2)
	check := func(b []byte) {
		t.Helper()
		if m, fault := said(b); fault.Err == api.OK {
			gets(t, b, m)
		} else {
			faults(t, b, fault.Err, fault.At)
		}
	}
	for range 40000 {
		b := make([]byte, r.Intn(70))
		r.Read(b)
		check(b)
		if len(b) > 1 {
			b[0], b[1] = byte(r.Intn(13)), byte(r.Intn(4))
			check(b)
		}
		b = laid(wild(r, 1+r.Intn(11)))
		for range r.Intn(3) {
			b[r.Intn(len(b))] = byte(r.Intn(256) >> r.Intn(9))
		}
		check(b)
		check(b[:r.Intn(len(b)+1)])
		check(append(b, make([]byte, r.Intn(3))...))
	}
}

// P11.2: each byte of a message's bytes, changed to each other one.
func TestGetOfAByteChanged(t *testing.T) {
	for _, kind := range kinds() {
		for _, m := range []api.Msg{ordinary(kind), least(kind), greatest(kind)} {
			b := laid(m)
			for at := range b {
				was := b[at]
				for c := range 256 {
					b[at] = byte(c)
					if want, fault := said(b); fault.Err == api.OK {
						gets(t, b, want)
					} else {
						faults(t, b, fault.Err, fault.At)
					}
				}
				b[at] = was
			}
		}
	}
}

// P11.2: what stands in the spare room of bytes does not count.
func TestGetReadsNoSpareRoom(t *testing.T) {
	for _, kind := range kinds() {
		m := ordinary(kind)
		b := append(laid(m), laid(m)...)
		whole := len(b) / 2
		gets(t, b[:whole], m)
		for end := range whole {
			faults(t, b[:end], api.ErrBytes, end)
		}
	}
}

// P11.2, rule 2: with a fault the message has nothing, not even Data of no bytes that are some other's.
func TestGetTellsNothingBesideAFault(t *testing.T) {
	for _, b := range [][]byte{append(laid(ordinary(api.MsgWrite)), 0), laid(ordinary(api.MsgWrite))[:52], {9, 3}, {12, 0}} {
		if m, fault := msg.Get(b); fault.Err == api.OK || cap(m.Data) != 0 || !same(m, api.Msg{}) {
			t.Errorf("Get(%v) = %s, %v", b, show(m), fault)
		}
	}
}

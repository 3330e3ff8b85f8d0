package msg_test

import (
	"bytes"
	"math"
	"slices"
	"testing"

	"tandem/api"
)

// P11.1: the chapter's examples.
func TestExamplesOfPut(t *testing.T) {
	puts(t, api.Msg{Kind: api.MsgMap, From: 1, Term: 3}, []byte{9, 1, 3, 0, 0, 0, 0, 0})
	puts(t, api.Msg{Kind: api.MsgGrant, From: 2, Term: 1, OK: true, Stamp: 5, Rec: api.Record{Term: 1, N: 0, Set: 3}},
		[]byte{2, 2, 1, 0, 0, 0, 0, 0, 1, 5, 0, 0, 0, 0, 0, 1, 0, 0, 0, 0, 0, 0, 0, 0, 0, 0, 0, 3})
	refused(t, api.Msg{Kind: api.MsgMap, Seq: 1})
	refused(t, api.Msg{Kind: api.MsgWrite, Data: make([]byte, 31)})
}

// P11.1: of each kind a message, and its bytes, both written out.
func TestPutOfEachKind(t *testing.T) {
	rec := api.Record{Term: 0x0807, N: 0x0a09, Set: 1}
	data := filled(7)
	for _, c := range []struct {
		m    api.Msg
		want []byte
	}{
		{api.Msg{Kind: api.MsgAsk, From: 1, Term: 0x0102, Rec: rec, Stamp: 0x0304},
			[]byte{1, 1, 2, 1, 0, 0, 0, 0, 7, 8, 0, 0, 0, 0, 9, 10, 0, 0, 0, 0, 1, 4, 3, 0, 0, 0, 0}},
		{api.Msg{Kind: api.MsgGrant, From: 2, Term: 0x0102, OK: true, Stamp: 0x0304, Rec: rec},
			[]byte{2, 2, 2, 1, 0, 0, 0, 0, 1, 4, 3, 0, 0, 0, 0, 7, 8, 0, 0, 0, 0, 9, 10, 0, 0, 0, 0, 1}},
		{api.Msg{Kind: api.MsgBeat, From: 0, Term: 0x0102, Stamp: 0x0304},
			[]byte{3, 0, 2, 1, 0, 0, 0, 0, 4, 3, 0, 0, 0, 0}},
		{api.Msg{Kind: api.MsgBeatAck, From: 1, Term: 0x0102, OK: true, Stamp: 0x0304},
			[]byte{4, 1, 2, 1, 0, 0, 0, 0, 1, 4, 3, 0, 0, 0, 0}},
		{api.Msg{Kind: api.MsgNote, From: 0, Term: 0x0102, Rec: rec},
			[]byte{5, 0, 2, 1, 0, 0, 0, 0, 7, 8, 0, 0, 0, 0, 9, 10, 0, 0, 0, 0, 1}},
		{api.Msg{Kind: api.MsgNoteAck, From: 2, Term: 0x0102, Rec: rec},
			[]byte{6, 2, 2, 1, 0, 0, 0, 0, 0, 7, 8, 0, 0, 0, 0, 9, 10, 0, 0, 0, 0, 1}},
		{api.Msg{Kind: api.MsgWrite, From: 1, Term: 0x0102, Seq: 0x0506, Stamp: 0x0304, Block: 37, Data: data},
			slices.Concat([]byte{7, 1, 2, 1, 0, 0, 0, 0, 6, 5, 0, 0, 0, 0, 4, 3, 0, 0, 0, 0, 37}, data)},
		{api.Msg{Kind: api.MsgWriteAck, From: 0, Term: 0x0102, Seq: 0x0506, OK: true, Stamp: 0x0304},
			[]byte{8, 0, 2, 1, 0, 0, 0, 0, 6, 5, 0, 0, 0, 0, 1, 4, 3, 0, 0, 0, 0}},
		{api.Msg{Kind: api.MsgMap, From: 0, Term: 0x0504030201},
			[]byte{9, 0, 1, 2, 3, 4, 5, 0}},
		{api.Msg{Kind: api.MsgMapAck, From: 1, Term: 0x0102, OK: true, Stamp: 0x0304, Bits: 0x8070605040302010},
			[]byte{10, 1, 2, 1, 0, 0, 0, 0, 1, 4, 3, 0, 0, 0, 0, 16, 32, 48, 64, 80, 96, 112, 128}},
		{api.Msg{Kind: api.MsgClean, From: 0, Term: 0x0102, Bits: 0x8070605040302010},
			[]byte{11, 0, 2, 1, 0, 0, 0, 0, 16, 32, 48, 64, 80, 96, 112, 128}},
	} {
		puts(t, c.m, c.want)
		gets(t, c.want, c.m)
	}
}

// P11.1: what may be is put, each part at each of its bounds and beside them, of each kind and from each node.
func TestPutOfEdges(t *testing.T) {
	for _, kind := range kinds() {
		for _, m := range edges(kind) {
			puts(t, m, laid(m))
		}
	}
	full := []byte{0, 0, 0, 0, 0, 1}
	puts(t, greatest(api.MsgAsk), slices.Concat([]byte{1, 2}, full, full, full, []byte{3}, full))
	puts(t, greatest(api.MsgWrite), slices.Concat([]byte{7, 2}, full, full, full, []byte{63}, bytes.Repeat([]byte{255}, 32)))
	puts(t, greatest(api.MsgMapAck), slices.Concat([]byte{10, 2}, full, []byte{1}, full, bytes.Repeat([]byte{255}, 8)))
	puts(t, least(api.MsgNoteAck), append([]byte{6}, make([]byte, 21)...))
}

// P11.1: a kind that there is not may not be, whatever else the message has, and though its lowest byte be that of one that there is.
func TestPutOfWrongKinds(t *testing.T) {
	for _, kind := range []int{0, -1, -2, -11, 12, 13, 100, 127, 128, 255, 256, 256 + 3, 1<<16 + 9, 1<<32 + 3, -256 + 3, math.MaxInt, math.MaxInt - 1, math.MinInt, math.MinInt + 3} {
		refused(t, api.Msg{Kind: kind})
		refused(t, api.Msg{Kind: kind, From: 3, Term: -1})
		for _, of := range kinds() {
			m := ordinary(of)
			m.Kind = kind
			refused(t, m)
		}
	}
}

// P11.1: what is from no node may not be.
func TestPutFromNoNode(t *testing.T) {
	for _, kind := range kinds() {
		for _, from := range []int{-1, -2, -3, 3, 4, 255, 256, 256 + 1, -256 + 1, 1<<32 + 1, math.MaxInt, math.MinInt, math.MinInt + 1} {
			for _, m := range []api.Msg{ordinary(kind), least(kind), greatest(kind)} {
				m.From = from
				refused(t, m)
			}
		}
	}
}

// P11.1: a number that is beyond its bounds may not be, be it by one or by much, and though its lowest bytes be those of one that may be.
func TestPutOfNumbersOutOfRange(t *testing.T) {
	for _, kind := range kinds() {
		for _, p := range layouts[kind] {
			top, there := tops[p]
			if !there {
				continue
			}
			for _, n := range []int{-1, -2, -top, -top - 1, top + 1, top + 2, 2*top + 1, 256, 256 + 1, 1 << 48, 1<<48 + 1, 1<<56 + 1, -1 << 48, -1<<48 + 1, math.MaxInt, math.MaxInt - 1, math.MinInt, math.MinInt + 1} {
				if n >= 0 && n <= top {
					continue
				}
				for _, m := range []api.Msg{ordinary(kind), least(kind), greatest(kind)} {
					*number(&m, p) = n
					refused(t, m)
				}
			}
		}
	}
}

// P11.1: what a kind has not is zero.
func TestPutOfWhatAKindHasNot(t *testing.T) {
	for _, kind := range kinds() {
		for _, about := range []api.Msg{ordinary(kind), least(kind), greatest(kind)} {
			for _, p := range numbers() {
				if has(kind, p) {
					continue
				}
				for _, n := range []int{1, 2, -1, 63, 256, most, most + 1, 1 << 48, 1 << 62, math.MaxInt, math.MinInt} {
					m := about
					*number(&m, p) = n
					refused(t, m)
				}
			}
			if !has(kind, "OK") {
				m := about
				m.OK = true
				refused(t, m)
			}
			for _, bits := range []uint64{1, 1 << 32, 1 << 63, math.MaxUint64} {
				if !has(kind, "Bits") {
					m := about
					m.Bits = bits
					refused(t, m)
				}
			}
		}
	}
}

// P11.1: two numbers that a kind has not may not be, though together they be nought.
func TestPutOfTwoThatAKindHasNot(t *testing.T) {
	for _, n := range []int{1, most, math.MaxInt} {
		refused(t, api.Msg{Kind: api.MsgMap, Term: 3, Seq: n, Stamp: -n})
		refused(t, api.Msg{Kind: api.MsgMap, Term: 3, Seq: n, Stamp: n})
		refused(t, api.Msg{Kind: api.MsgMap, Term: 3, Rec: api.Record{Term: n, N: -n}})
	}
	refused(t, api.Msg{Kind: api.MsgMap, Term: 3, Seq: math.MinInt, Stamp: math.MinInt})
}

// P11.1: Data is just 32 bytes where the kind has it.
func TestPutOfWrongData(t *testing.T) {
	for _, about := range []api.Msg{ordinary(api.MsgWrite), least(api.MsgWrite), greatest(api.MsgWrite)} {
		for _, size := range []int{0, 1, 16, 30, 31, 33, 34, 63, 64, 256, 256 + 32, 65536 + 32} {
			m := about
			m.Data = bytes.Repeat([]byte{7}, size)
			refused(t, m)
		}
		m := about
		m.Data = nil
		refused(t, m)
		m.Data = filled(1)[:31]
		refused(t, m)
		m.Data = append(filled(1), filled(2)...)[:31]
		refused(t, m)
	}
}

// P11.1: where the kind has it not it has no bytes, be the list nil or not.
func TestPutOfDataThatAKindHasNot(t *testing.T) {
	for _, kind := range kinds() {
		if has(kind, "Data") {
			continue
		}
		for _, m := range []api.Msg{ordinary(kind), least(kind), greatest(kind)} {
			want := laid(m)
			m.Data = nil
			puts(t, m, want)
			m.Data = []byte{}
			puts(t, m, want)
			m.Data = filled(1)[:0]
			puts(t, m, want)
			for _, size := range []int{1, 2, 31, 32, 33} {
				m.Data = make([]byte, size)
				refused(t, m)
				m.Data = bytes.Repeat([]byte{9}, size)
				refused(t, m)
			}
		}
	}
}

// P11.1: Check and Put tell what the document has, of messages without a pattern, of which some part is often as it may not be.
func TestPutAgainstTheDocument(t *testing.T) {
	r := chance(1)
	odd := []int{-1, 0, 1, 2, 3, 4, 63, 64, 255, 256, most, most + 1, 1 << 48, math.MaxInt, math.MinInt}
	right := 0
	for range 60000 {
		m := wild(r, 1+r.Intn(11))
		for range r.Intn(3) {
			n := odd[r.Intn(len(odd))]
			switch r.Intn(6) {
			case 0:
				m.Kind = n
			case 1:
				m.From = n
			case 2:
				m.OK = !m.OK
			case 3:
				m.Data = make([]byte, max(0, min(n, 64)))
			default:
				*number(&m, numbers()[r.Intn(7)]) = n
			}
		}
		if !mayBe(m) {
			refused(t, m)
			continue
		}
		right++
		puts(t, m, laid(m))
	}
	if right < 10000 || right > 50000 {
		t.Error("messages that may be:", right)
	}
}

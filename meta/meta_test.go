package meta_test

import (
	"bytes"
	"encoding/binary"
	"math"
	"slices"
	"testing"

	"tandem/api"
	"tandem/meta"
)

const most = 1 << 40

// place is one of a meta's fields: its bounds, where it stands in the bytes, as how many, and by how much it is laid greater than it is.
type place struct {
	name            string
	of              func(m *api.Meta) *int
	least, greatest int
	at, width, more int
}

// places tells all fields, as the document's words have them.
func places() []place {
	return []place{
		{"Term", func(m *api.Meta) *int { return &m.Term }, 0, most, 0, 6, 0},
		{"Vote", func(m *api.Meta) *int { return &m.Vote }, -1, 2, 6, 1, 1},
		{"Rec.Term", func(m *api.Meta) *int { return &m.Rec.Term }, 0, most, 7, 6, 0},
		{"Rec.N", func(m *api.Meta) *int { return &m.Rec.N }, 0, most, 13, 6, 0},
		{"Rec.Set", func(m *api.Meta) *int { return &m.Rec.Set }, 0, 3, 19, 1, 0},
		{"Boot", func(m *api.Meta) *int { return &m.Boot }, 0, most, 20, 6, 0},
	}
}

// lay lays a field of a meta's bytes, whatever the number is, by the library, so that it leans on none of what it is held against.
func (p place) lay(b []byte, n uint64) {
	copy(b[p.at:p.at+p.width], binary.LittleEndian.AppendUint64(nil, n))
}

// laid tells a meta as bytes.
func laid(m api.Meta) []byte {
	b := make([]byte, 26)
	for _, p := range places() {
		p.lay(b, uint64(*p.of(&m)+p.more))
	}
	return b
}

// numbers tells numbers that a field may have: the least, the greatest, and some between, unlike in each byte.
func (p place) numbers() []int {
	if p.width == 1 {
		l := []int{}
		for n := p.least; n <= p.greatest; n++ {
			l = append(l, n)
		}
		return l
	}
	return []int{p.least, 1, 258, 0x0605040302, p.greatest - 1, p.greatest}
}

// wrongNumbers tells numbers that a field may not have; among them those whose lowest bytes are those of one that it may have.
func (p place) wrongNumbers() []int {
	l := []int{p.least - 1, p.least - 2, -256, -most, math.MinInt, math.MinInt + 1, p.greatest + 1, p.greatest + 2, 2 * most, 1<<48 - 1, 1 << 48, 1<<48 + 1, math.MaxInt, math.MaxInt - 1}
	if p.width == 1 {
		l = append(l, 254, 255, 256, 257, 258, 511, 512, 1<<32, 1<<32+1, most)
	}
	return l
}

// metas tells metas that may be, each field's numbers with those of all others.
func metas() []api.Meta {
	l := []api.Meta{{}}
	for _, p := range places() {
		var longer []api.Meta
		for _, m := range l {
			for _, n := range p.numbers() {
				*p.of(&m) = n
				longer = append(longer, m)
			}
		}
		l = longer
	}
	return l
}

// edges tells some metas that may be: all least, all greatest, none alike, and one of each with one field at each of its numbers.
func edges() []api.Meta {
	l := []api.Meta{
		{Vote: -1},
		{Term: most, Vote: 2, Rec: api.Record{Term: most, N: most, Set: 3}, Boot: most},
		{Term: 0x0908070605, Vote: 1, Rec: api.Record{Term: 0x0102030405, N: 0x060708090a, Set: 2}, Boot: 0x0b0c0d0e0f},
	}
	for _, m := range slices.Clone(l) {
		for _, p := range places() {
			for _, n := range p.numbers() {
				other := m
				*p.of(&other) = n
				l = append(l, other)
			}
		}
	}
	return l
}

// wrongs tells metas that may not be: one field that may not, beside others that may, or beside another one that may not.
func wrongs() []api.Meta {
	var l []api.Meta
	for _, m := range edges()[:3] {
		for _, p := range places() {
			for _, n := range p.wrongNumbers() {
				one := m
				*p.of(&one) = n
				l = append(l, one)
				for _, q := range places() {
					two := one
					*q.of(&two) = q.greatest + 1
					l = append(l, two)
				}
			}
		}
	}
	return l
}

// is holds what a call answered against what is asked for; ok against OK.
func is(t *testing.T, call string, got, want api.Errno) {
	t.Helper()
	if got != want {
		t.Errorf("%s = %v, not %v", call, got, want)
	}
}

func ok(t *testing.T, call string, got api.Errno) {
	t.Helper()
	is(t, call, got, api.OK)
}

// reads and refuses hold what Read answers against what is asked for.
func reads(t *testing.T, b []byte, want api.Meta) {
	t.Helper()
	if got, err := meta.Read(b); got != want || err != api.OK {
		t.Errorf("Read(%v) = %v, %v, not %v", b, got, err, want)
	}
}

func refuses(t *testing.T, what string, b []byte) {
	t.Helper()
	if got, err := meta.Read(b); got != (api.Meta{}) || err != api.ErrBytes {
		t.Errorf("%s: Read(%v) = %v, %v, not zero, %v", what, b, got, err, api.ErrBytes)
	}
}

// The chapter's examples, in their order.
func TestExamples(t *testing.T) {
	b, err := meta.Bytes(meta.First())
	if !bytes.Equal(b, make([]byte, 26)) || err != api.OK {
		t.Errorf("Bytes(First) = %v, %v", b, err)
	}
	b, err = meta.Bytes(api.Meta{Term: 258, Vote: 2})
	if !bytes.Equal(b, append([]byte{2, 1, 0, 0, 0, 0, 3}, make([]byte, 19)...)) || err != api.OK {
		t.Errorf("Bytes(Term 258, Vote 2) = %v, %v", b, err)
	}
	is(t, "Check(Vote 3)", meta.Check(api.Meta{Vote: 3}), api.ErrArg)
	refuses(t, "25 noughts", make([]byte, 25))
	refuses(t, "a Vote's byte 4", append([]byte{0, 0, 0, 0, 0, 0, 4}, make([]byte, 19)...))
	d := made(t, 2)
	ok(t, "Save(Term 5)", meta.Save(d, 0, api.Meta{Term: 5}))
	loads(t, d, 0, api.Meta{Term: 5})
	misses(t, "a new disk", made(t, 2), 0, api.ErrMissing)
	if !meta.Newer(api.Record{Term: 2}, api.Record{Term: 1, N: 9}) || meta.Newer(api.Record{Term: 1, N: 1}, api.Record{Term: 1, N: 1}) {
		t.Error("Newer")
	}
}

// P6.1: the first meta has voted for none, and is zero else.
func TestFirst(t *testing.T) {
	if got := meta.First(); got != (api.Meta{Vote: -1}) {
		t.Error("First() =", got)
	}
	ok(t, "Check(First)", meta.Check(meta.First()))
	reads(t, make([]byte, 26), meta.First())
}

// P6.1: a meta may be, up to each bound of each field; one beyond it may not.
func TestCheck(t *testing.T) {
	for _, m := range metas() {
		if err := meta.Check(m); err != api.OK {
			t.Errorf("Check(%v) = %v", m, err)
		}
	}
	for _, m := range wrongs() {
		if err := meta.Check(m); err != api.ErrArg {
			t.Errorf("Check(%v) = %v, not %v", m, err, api.ErrArg)
		}
	}
}

// P6.1: a meta's bytes, byte by byte, as the document's words lay them out.
func TestBytesAtTheirPlaces(t *testing.T) {
	m := api.Meta{Term: 0x0203040506, Vote: 0, Rec: api.Record{Term: 0x0708090a0b, N: 0x0c0d0e0f10, Set: 2}, Boot: 0x1112131415}
	want := []byte{6, 5, 4, 3, 2, 0, 1, 11, 10, 9, 8, 7, 0, 16, 15, 14, 13, 12, 0, 2, 21, 20, 19, 18, 17, 0}
	if got, err := meta.Bytes(m); !bytes.Equal(got, want) || err != api.OK {
		t.Errorf("Bytes(%v) = %v, %v, not %v", m, got, err, want)
	}
	reads(t, want, m)
	m.Vote, m.Boot = -1, most
	want[6] = 0
	copy(want[20:], []byte{0, 0, 0, 0, 0, 1})
	if got, err := meta.Bytes(m); !bytes.Equal(got, want) || err != api.OK {
		t.Errorf("Bytes(%v) = %v, %v, not %v", m, got, err, want)
	}
	reads(t, want, m)
}

// P6.1, P6.3: all metas that may be are written as the document says, and read as they were.
func TestBytesAndRead(t *testing.T) {
	for _, m := range metas() {
		want := laid(m)
		if got, err := meta.Bytes(m); !bytes.Equal(got, want) || err != api.OK {
			t.Errorf("Bytes(%v) = %v, %v, not %v", m, got, err, want)
		}
		reads(t, want, m)
	}
}

// P6.1: of a meta that may not be there are no bytes.
func TestWrongBytes(t *testing.T) {
	for _, m := range wrongs() {
		if got, err := meta.Bytes(m); len(got) != 0 || err != api.ErrArg {
			t.Errorf("Bytes(%v) = %v, %v, not none, %v", m, got, err, api.ErrArg)
		}
	}
}

// P6.1: what has not 26 bytes is no meta, be it noughts, a meta that is cut, or one with more ahead or behind.
func TestReadOfWrongSizes(t *testing.T) {
	refuses(t, "nil", nil)
	for _, m := range edges() {
		whole := laid(m)
		for _, size := range []int{0, 1, 5, 6, 7, 12, 13, 14, 18, 19, 20, 21, 24, 25, 27, 28, 32, 40, 52, 64, 26 + 256} {
			refuses(t, "noughts", make([]byte, size))
			refuses(t, "a meta, cut or with more", append(slices.Clone(whole), make([]byte, 256)...)[:size])
		}
		refuses(t, "one byte ahead", append([]byte{0}, whole...))
		refuses(t, "all but the first byte", whole[1:])
		refuses(t, "two metas", append(whole, whole...))
	}
	refuses(t, "65536 and 26 noughts", make([]byte, 65536+26))
}

// P6.1: 26 bytes of which one field is above its greatest are no meta, up to the greatest number that has as many bytes.
func TestReadOfFieldsThatMayNotBe(t *testing.T) {
	for _, m := range edges() {
		for _, p := range places() {
			top, end := uint64(p.greatest+p.more), uint64(1)<<(8*p.width)-1
			wrong := []uint64{top + 1, top + 2, top + 3, 2*top + 1, end / 2, end/2 + 1, end - 1, end}
			for n := top + 1; p.width == 1 && n <= end; n++ {
				wrong = append(wrong, n)
			}
			for bit := 0; p.width == 6 && bit < 48; bit++ {
				wrong = append(wrong, top|1<<bit, end^1<<bit)
			}
			for _, n := range wrong {
				b := laid(m)
				p.lay(b, n)
				if n > top {
					refuses(t, p.name, b)
				}
			}
		}
	}
}

// understood tells the meta that 26 bytes are, if they are one, by another way than Read's.
func understood(b []byte) (m api.Meta, isMeta bool) {
	isMeta = true
	for _, p := range places() {
		n := int(binary.LittleEndian.Uint64(append(slices.Clone(b[p.at:p.at+p.width]), make([]byte, 8)...))) - p.more
		*p.of(&m) = n
		isMeta = isMeta && n <= p.greatest
	}
	return m, isMeta
}

// P6.1, P6.3: of 26 bytes, whatever one or two of them are: what is read is written as it was, or is refused.
func TestReadOfBytesChanged(t *testing.T) {
	for i, m := range edges() {
		for at := range 26 {
			for c := range 256 {
				b := laid(m)
				b[at], b[(at+i)%26] = byte(c), byte(c)
				want, isMeta := understood(b)
				if !isMeta {
					refuses(t, "bytes changed", b)
					continue
				}
				reads(t, b, want)
				if again, err := meta.Bytes(want); !bytes.Equal(again, b) || err != api.OK {
					t.Errorf("what is read of %v is written as %v, %v", b, again, err)
				}
			}
		}
	}
	refuses(t, "26 bytes 255", bytes.Repeat([]byte{255}, 26))
	refuses(t, "26 bytes 4", bytes.Repeat([]byte{4}, 26))
}

// P6.1, rule 4: what is handed in is left as it is, its spare room is not looked at; what is told is new memory, its spare room too.
func TestBytesAndReadOfWhatIsHandedIn(t *testing.T) {
	m := edges()[2]
	b, err := meta.Bytes(m)
	ok(t, "Bytes", err)
	other, _ := meta.Bytes(m)
	fill(b, 200)
	again, _ := meta.Bytes(m)
	if !bytes.Equal(other, laid(m)) || !bytes.Equal(again, laid(m)) {
		t.Error("what Bytes told shares memory")
	}
	long := append(laid(m), laid(edges()[1])...)
	was := slices.Clone(long)
	reads(t, long[:26], m)
	refuses(t, "25 bytes with room behind them", long[:25])
	refuses(t, "no byte with room behind it", long[:0])
	if !bytes.Equal(long, was) {
		t.Error("Read changed what it was handed")
	}
}

// fill lays one byte over bytes and their spare room.
func fill(b []byte, c byte) {
	b = b[:cap(b)]
	for i := range b {
		b[i] = c
	}
}

// P6.1: which record is newer, case by case.
func TestNewer(t *testing.T) {
	for _, c := range []struct {
		a, b api.Record
		want bool
	}{
		{api.Record{}, api.Record{}, false},
		{api.Record{Term: 1}, api.Record{}, true},
		{api.Record{}, api.Record{Term: 1}, false},
		{api.Record{N: 1}, api.Record{}, true},
		{api.Record{}, api.Record{N: 1}, false},
		{api.Record{Term: 2, N: 0}, api.Record{Term: 1, N: most}, true},
		{api.Record{Term: 1, N: most}, api.Record{Term: 2, N: 0}, false},
		{api.Record{Term: 2, N: 3}, api.Record{Term: 1, N: 3}, true},
		{api.Record{Term: 1, N: 3}, api.Record{Term: 2, N: 3}, false},
		{api.Record{Term: 7, N: 4, Set: 1}, api.Record{Term: 7, N: 3, Set: 2}, true},
		{api.Record{Term: 7, N: 3, Set: 3}, api.Record{Term: 7, N: 3, Set: 1}, false},
		{api.Record{Term: 7, N: 3, Set: 1}, api.Record{Term: 7, N: 3, Set: 3}, false},
		{api.Record{Term: most, N: most}, api.Record{Term: most, N: most - 1}, true},
		{api.Record{Term: most, N: most}, api.Record{Term: most - 1, N: most}, true},
		{api.Record{Term: -1, N: 5}, api.Record{Term: -2, N: 6}, true},
		{api.Record{Term: math.MaxInt}, api.Record{Term: math.MinInt}, true},
		{api.Record{Term: math.MinInt}, api.Record{Term: math.MaxInt}, false},
		{api.Record{N: math.MaxInt}, api.Record{N: math.MinInt}, true},
		{api.Record{N: math.MinInt}, api.Record{N: math.MaxInt}, false},
	} {
		if got := meta.Newer(c.a, c.b); got != c.want {
			t.Errorf("Newer(%v, %v) = %v", c.a, c.b, got)
		}
	}
}

// P6.1, P6.3: of two records, whether they may be or not, one is newer, or they have one Term and one N; whatever their sets are.
func TestNewerOfAllPairs(t *testing.T) {
	var l []api.Record
	numbers := []int{math.MinInt, -most, -1, 0, 1, 2, 258, most - 1, most, most + 1, math.MaxInt}
	for _, term := range numbers {
		for _, n := range numbers {
			for _, set := range []int{-1, 0, 1, 3, 4} {
				l = append(l, api.Record{Term: term, N: n, Set: set})
			}
		}
	}
	for _, a := range l {
		for _, b := range l {
			want := slices.Compare([]int{a.Term, a.N}, []int{b.Term, b.N})
			if meta.Newer(a, b) != (want > 0) || meta.Newer(b, a) != (want < 0) {
				t.Fatalf("Newer(%v, %v) = %v, the other way round %v", a, b, meta.Newer(a, b), meta.Newer(b, a))
			}
		}
	}
}

package bits_test

import (
	"math"
	"slices"
	"testing"

	"tandem/api"
	"tandem/bits"
)

// blocksOf tells the blocks of a word by halving it, so that it leans on none of what it is held against.
func blocksOf(s uint64) []int {
	var l []int
	for block := 0; s > 0; block++ {
		if s%2 == 1 {
			l = append(l, block)
		}
		s /= 2
	}
	return l
}

// wordOf tells the word of blocks of which none stands there twice, by adding up powers of 2.
func wordOf(l []int) uint64 {
	var s uint64
	for _, block := range l {
		power := uint64(1)
		for range block {
			power *= 2
		}
		s += power
	}
	return s
}

// with and without tell a list with a block, without it, rising.
func with(l []int, block int) []int {
	c := append(without(l, block), block)
	slices.Sort(c)
	return c
}

func without(l []int, block int) []int {
	return slices.DeleteFunc(slices.Clone(l), func(b int) bool { return b == block })
}

// sets tells those on which the promises are tried: none, all, each block alone, all but one, rows from either end, patterns, and many without a pattern.
func sets() []uint64 {
	const all = uint64(math.MaxUint64)
	l := []uint64{0, all, 0xaaaaaaaaaaaaaaaa, 0x5555555555555555, 0xffffffff, 0xffffffff00000000, 1<<63 | 1, 1<<32 | 1<<31, 11, 10, 33}
	for i := range 64 {
		l = append(l, 1<<i, all^1<<i, 1<<i-1, all<<i)
	}
	seed := uint64(5)
	for range 200 {
		seed = seed*6364136223846793005 + 1442695040888963407
		l = append(l, seed, seed&(seed<<29|seed>>35))
	}
	return l
}

// wrongBlocks tells numbers that are no blocks; among them those whose lowest bits are the number of one.
func wrongBlocks() []int {
	return []int{-1, -2, -63, -64, -65, -128, 64, 65, 66, 127, 128, 192, 256, 1 << 32, 1<<32 + 3, -1 << 32, 1 << 62, math.MaxInt, math.MinInt, math.MinInt + 3}
}

// sizes tells numbers of blocks, and where to go on from: all about 0 and 64, and far ones.
func sizes() []int {
	l := wrongBlocks()
	for i := -70; i <= 140; i++ {
		l = append(l, i)
	}
	return l
}

// sameSet and outOfRange hold an answer against what is asked for; the call is told only where they differ.
func sameSet(t *testing.T, call string, got uint64, err api.Errno, want uint64, args ...any) {
	t.Helper()
	if got != want || err != api.OK {
		t.Errorf("%s%v = %#x, %v, not %#x", call, args, got, err, want)
	}
}

func outOfRange(t *testing.T, call string, got uint64, err api.Errno, args ...any) {
	t.Helper()
	if got != 0 || err != api.ErrRange {
		t.Errorf("%s%v = %#x, %v, not 0, ErrRange", call, args, got, err)
	}
}

func sameFirst(t *testing.T, s uint64, from, want int, there bool) {
	t.Helper()
	if got, ok := bits.First(s, from); got != want || ok != there {
		t.Errorf("First(%#x, %d) = %d, %v, not %d, %v", s, from, got, ok, want, there)
	}
}

// P2.1: the chapter's examples.
func TestExamplesOfOneBlock(t *testing.T) {
	s, err := bits.Put(0, 3)
	sameSet(t, "Put(0, 3)", s, err, 8)
	s, err = bits.Put(8, 64)
	outOfRange(t, "Put(8, 64)", s, err)
	s, err = bits.Cut(8, 3)
	sameSet(t, "Cut(8, 3)", s, err, 0)
	if !bits.Has(8, 3) || bits.Has(8, -1) {
		t.Error("Has(8, 3), Has(8, -1):", bits.Has(8, 3), bits.Has(8, -1))
	}
	if got := bits.Count(11); got != 3 {
		t.Error("Count(11):", got)
	}
	sameFirst(t, 10, 2, 3, true)
	sameFirst(t, 10, 4, 0, false)
	sameFirst(t, 10, -5, 1, true)
}

// P2.2: the chapter's examples.
func TestExamplesOfManyBlocks(t *testing.T) {
	s, err := bits.All(3)
	sameSet(t, "All(3)", s, err, 7)
	s, err = bits.All(65)
	outOfRange(t, "All(65)", s, err)
	s, err = bits.Of([]int{5, 0, 5})
	sameSet(t, "Of(5, 0, 5)", s, err, 33)
	if got := bits.List(33); !slices.Equal(got, []int{0, 5}) {
		t.Error("List(33):", got)
	}
	if bits.Within(8, 3) || !bits.Within(8, 4) {
		t.Error("Within(8, 3), Within(8, 4):", bits.Within(8, 3), bits.Within(8, 4))
	}
}

// P2.1: Has tells of each block whether the set has it, the first and the last one too.
func TestHas(t *testing.T) {
	for _, s := range sets() {
		l := blocksOf(s)
		for block := range 64 {
			if got := bits.Has(s, block); got != slices.Contains(l, block) {
				t.Errorf("Has(%#x, %d) = %v", s, block, got)
			}
		}
	}
	if !bits.Has(1, 0) || bits.Has(1, 63) || !bits.Has(1<<63, 63) || bits.Has(1<<63, 0) {
		t.Error("blocks 0 and 63")
	}
}

// P2.1: no set has what is no block, not even that of all blocks.
func TestHasOfNoBlock(t *testing.T) {
	for _, s := range sets() {
		for _, block := range wrongBlocks() {
			if bits.Has(s, block) {
				t.Errorf("Has(%#x, %d) is true", s, block)
			}
		}
	}
}

// P2.1: Put tells the set with the block, Cut that without it, whether it was there or not.
func TestPutAndCut(t *testing.T) {
	for _, s := range sets() {
		l := blocksOf(s)
		for block := range 64 {
			got, err := bits.Put(s, block)
			sameSet(t, "Put", got, err, wordOf(with(l, block)), s, block)
			got, err = bits.Cut(s, block)
			sameSet(t, "Cut", got, err, wordOf(without(l, block)), s, block)
		}
	}
	s, err := bits.Put(1, 63)
	sameSet(t, "Put(1, 63)", s, err, 9223372036854775809)
	s, err = bits.Cut(9223372036854775809, 63)
	sameSet(t, "Cut of 63", s, err, 1)
	s, err = bits.Cut(9223372036854775809, 0)
	sameSet(t, "Cut of 0", s, err, 9223372036854775808)
}

// P2.1: what is no block is refused, and the set is not told then.
func TestPutAndCutOfNoBlock(t *testing.T) {
	for _, s := range sets() {
		for _, block := range wrongBlocks() {
			got, err := bits.Put(s, block)
			outOfRange(t, "Put", got, err, s, block)
			got, err = bits.Cut(s, block)
			outOfRange(t, "Cut", got, err, s, block)
		}
	}
}

// P2.1: Count tells how many blocks there are.
func TestCount(t *testing.T) {
	for _, s := range sets() {
		if got, want := bits.Count(s), len(blocksOf(s)); got != want {
			t.Errorf("Count(%#x) = %d, not %d", s, got, want)
		}
	}
	if bits.Count(0) != 0 || bits.Count(math.MaxUint64) != 64 || bits.Count(1<<63) != 1 {
		t.Error("none, all, the last one:", bits.Count(0), bits.Count(math.MaxUint64), bits.Count(1<<63))
	}
}

// P2.1: First tells the least block from any number on, below 0 and above 63 too.
func TestFirst(t *testing.T) {
	for _, s := range sets() {
		l := blocksOf(s)
		for _, from := range sizes() {
			at := slices.IndexFunc(l, func(b int) bool { return b >= from })
			if at < 0 {
				sameFirst(t, s, from, 0, false)
			} else {
				sameFirst(t, s, from, l[at], true)
			}
		}
	}
}

// P2.1: the edges of First, each by itself.
func TestFirstAtTheEdges(t *testing.T) {
	const all = uint64(math.MaxUint64)
	sameFirst(t, 0, 0, 0, false)
	sameFirst(t, 0, -1, 0, false)
	sameFirst(t, 0, math.MinInt, 0, false)
	sameFirst(t, 1, 0, 0, true)
	sameFirst(t, 1, -1, 0, true)
	sameFirst(t, 1, 1, 0, false)
	sameFirst(t, all, math.MinInt, 0, true)
	sameFirst(t, all, 63, 63, true)
	sameFirst(t, all, 64, 0, false)
	sameFirst(t, all, 128, 0, false)
	sameFirst(t, all, math.MaxInt, 0, false)
	sameFirst(t, 1<<63, 0, 63, true)
	sameFirst(t, 1<<62, 63, 0, false)
}

// P2.2: All tells the blocks 0 to that number less 1, for none and for all 64 too; and refuses other numbers.
func TestAll(t *testing.T) {
	for _, blocks := range sizes() {
		got, err := bits.All(blocks)
		if blocks < 0 || blocks > 64 {
			outOfRange(t, "All", got, err, blocks)
			continue
		}
		var want []int
		for block := range blocks {
			want = append(want, block)
		}
		sameSet(t, "All", got, err, wordOf(want), blocks)
	}
	s, err := bits.All(0)
	sameSet(t, "All(0)", s, err, 0)
	s, err = bits.All(64)
	sameSet(t, "All(64)", s, err, math.MaxUint64)
	s, err = bits.All(-1)
	outOfRange(t, "All(-1)", s, err)
}

// P2.2: Of tells the set of a list, in whatever order it is, one block there once or more often; of an empty one that of none.
func TestOf(t *testing.T) {
	for _, s := range sets() {
		l := blocksOf(s)
		got, err := bits.Of(l)
		sameSet(t, "Of, rising", got, err, s)
		slices.Reverse(l)
		got, err = bits.Of(l)
		sameSet(t, "Of, falling", got, err, s)
		got, err = bits.Of(append(l, l...))
		sameSet(t, "Of, each twice", got, err, s)
	}
	got, err := bits.Of(nil)
	sameSet(t, "Of(nil)", got, err, 0)
	got, err = bits.Of([]int{})
	sameSet(t, "Of(none)", got, err, 0)
	got, err = bits.Of([]int{63, 63})
	sameSet(t, "Of(63, 63)", got, err, 1<<63)
	got, err = bits.Of(make([]int, 1000))
	sameSet(t, "Of(0, a thousand times)", got, err, 1)
}

// P2.2: one wrong block makes the list wrong, wherever it stands.
func TestOfNoBlock(t *testing.T) {
	good := []int{0, 63, 7, 7, 32}
	for _, wrong := range wrongBlocks() {
		got, err := bits.Of([]int{wrong})
		outOfRange(t, "Of one", got, err, wrong)
		for at := range len(good) + 1 {
			got, err = bits.Of(slices.Insert(slices.Clone(good), at, wrong))
			outOfRange(t, "Of more", got, err, wrong, at)
		}
	}
}

// P2.2: List tells the blocks, rising, each once.
func TestList(t *testing.T) {
	for _, s := range sets() {
		if got, want := bits.List(s), blocksOf(s); !slices.Equal(got, want) {
			t.Errorf("List(%#x) = %v, not %v", s, got, want)
		}
	}
	if got := bits.List(0); len(got) != 0 {
		t.Error("List(0):", got)
	}
	if got := bits.List(1<<63 | 1); !slices.Equal(got, []int{0, 63}) {
		t.Error("List of the first and the last:", got)
	}
}

// P2.2: Within tells whether the last block is below a number; of none it always is.
func TestWithin(t *testing.T) {
	for _, s := range sets() {
		last := math.MinInt
		if l := blocksOf(s); len(l) > 0 {
			last = l[len(l)-1]
		}
		for _, blocks := range sizes() {
			if got := bits.Within(s, blocks); got != (s == 0 || last < blocks) {
				t.Errorf("Within(%#x, %d) = %v", s, blocks, got)
			}
		}
	}
	if !bits.Within(0, 0) || !bits.Within(0, math.MinInt) || bits.Within(1, 0) || bits.Within(1, -1) {
		t.Error("below 0, below less")
	}
	if !bits.Within(math.MaxUint64, 64) || bits.Within(math.MaxUint64, 63) || !bits.Within(math.MaxUint64, math.MaxInt) {
		t.Error("all blocks")
	}
}

// P2.3: what is put is there, what is cut is not, and all others are as they were; done twice it is as done once.
func TestPutIsThereAndCutIsNot(t *testing.T) {
	for _, s := range sets() {
		for block := range 64 {
			in, _ := bits.Put(s, block)
			out, _ := bits.Cut(s, block)
			if !bits.Has(in, block) || bits.Has(out, block) {
				t.Errorf("%#x: block %d: put %v, cut %v", s, block, bits.Has(in, block), bits.Has(out, block))
			}
			for other := range 64 {
				if other != block && (bits.Has(in, other) != bits.Has(s, other) || bits.Has(out, other) != bits.Has(s, other)) {
					t.Errorf("%#x: block %d changed block %d", s, block, other)
				}
			}
			again, err := bits.Put(in, block)
			sameSet(t, "Put twice", again, err, in, s, block)
			again, err = bits.Cut(out, block)
			sameSet(t, "Cut twice", again, err, out, s, block)
			if bits.Count(in) != bits.Count(out)+1 {
				t.Errorf("%#x: block %d: %d with it, %d without", s, block, bits.Count(in), bits.Count(out))
			}
		}
	}
}

// P2.3: a set is that of its list, and has what its list has.
func TestSetOfItsList(t *testing.T) {
	for _, s := range sets() {
		l := bits.List(s)
		got, err := bits.Of(l)
		sameSet(t, "Of its list", got, err, s)
		if len(l) != bits.Count(s) {
			t.Errorf("%#x: %d in its list, Count %d", s, len(l), bits.Count(s))
		}
		for block := range 64 {
			if bits.Has(s, block) != slices.Contains(l, block) {
				t.Errorf("%#x: block %d in one, not in the other", s, block)
			}
		}
	}
	for blocks := range 65 {
		s, _ := bits.All(blocks)
		if bits.Count(s) != blocks || !bits.Within(s, blocks) || blocks > 0 && bits.Within(s, blocks-1) {
			t.Errorf("All(%d) = %#x", blocks, s)
		}
	}
}

// P2.3: First goes from each block to the next one, as many times as Count says.
func TestFirstGoesThroughAll(t *testing.T) {
	for _, s := range sets() {
		var l []int
		block, ok := bits.First(s, 0)
		for ok && len(l) <= 64 {
			l = append(l, block)
			block, ok = bits.First(s, block+1)
		}
		if len(l) != bits.Count(s) || !slices.Equal(l, bits.List(s)) {
			t.Errorf("%#x: First went through %v, Count %d, List %v", s, l, bits.Count(s), bits.List(s))
		}
	}
}

// Rule 4: the list that is handed in is left as it is, and its spare room is not looked at.
func TestListIsLeftAlone(t *testing.T) {
	room := []int{9, 3, 9, 64, -1, 5}
	was := slices.Clone(room)
	s, err := bits.Of(room[:3])
	sameSet(t, "Of a list with spare room", s, err, 1<<9|1<<3)
	s, err = bits.Of(room)
	outOfRange(t, "Of all of it", s, err)
	if !slices.Equal(room, was) {
		t.Error("the list was changed:", room)
	}
}

// Rule 4: each list that is told is new memory, its spare room too.
func TestListIsNew(t *testing.T) {
	for _, s := range []uint64{0, 1, 33, 1 << 63, math.MaxUint64} {
		want := bits.List(s)
		first, second := bits.List(s), bits.List(s)
		first = first[:cap(first)]
		for i := range first {
			first[i] = -7
		}
		if !slices.Equal(second, want) || !slices.Equal(bits.List(s), want) || slices.Contains(second[:cap(second)], -7) {
			t.Errorf("%#x: two lists share memory", s)
		}
	}
}

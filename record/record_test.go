package record_test

import (
	"math"
	"slices"
	"testing"

	"grommet/api"
	"grommet/layout"
	"grommet/record"
	"grommet/sum"
)

var g = layout.Geometry{Workers: 2, Inodes: 9, Blocks: 30}

// sealed: words with their sum behind them.
func sealed(l ...uint64) []uint64 {
	return append(slices.Clone(l), sum.Of(l))
}

// blockWrites: so many writes of words of blocks.
func blockWrites(many int) []api.Write {
	l := make([]api.Write, many)
	for i := range l {
		l[i] = api.Write{At: layout.BlockAt(g, 0) + i, Value: uint64(i)}
	}
	return l
}

// outside: places that no write of a record may have.
func outside() []int {
	return []int{math.MinInt, -1, 0, 7, layout.AreaAt(g, 0), layout.AreaAt(g, 0) + 207, layout.AreaAt(g, 1), layout.AreaAt(g, 1) + 8, layout.Words(g), math.MaxInt}
}

// P8.1: May.
func TestMay(t *testing.T) {
	for _, at := range []int{
		layout.SessionAt(0), layout.SessionAt(0) + 7, layout.SlotAt(3, 3) + 11, layout.DescriptorAt(3, 3) + 1,
		layout.InodeMapAt(g), layout.BlockMapAt(g) + 7, layout.InodeAt(g, 0), layout.InodeAt(g, 8) + 15, layout.BlockAt(g, 0), layout.Words(g) - 1,
	} {
		if !record.May(g, []api.Write{{At: at, Value: 5}}) || !record.May(g, []api.Write{{At: 12}, {At: at}, {At: 25}}) {
			t.Errorf("a write at %d may not be", at)
		}
		if record.May(g, []api.Write{{At: at, Value: 5}, {At: 30}, {At: at, Value: 5}}) {
			t.Errorf("two writes at %d may be", at)
		}
	}
	for _, at := range outside() {
		if record.May(g, []api.Write{{At: at}}) || record.May(g, []api.Write{{At: 8}, {At: at}}) {
			t.Errorf("a write at %d may be", at)
		}
	}
	if !record.May(g, nil) || !record.May(g, blockWrites(96)) || record.May(g, blockWrites(97)) {
		t.Error("how many may be")
	}
	for _, g := range []layout.Geometry{{}, {Workers: 5, Inodes: 9, Blocks: 30}} {
		if record.May(g, nil) || record.May(g, []api.Write{{At: 8}}) {
			t.Errorf("writes of %v may be", g)
		}
	}
}

// P8.1: Words.
func TestWords(t *testing.T) {
	for _, c := range []struct {
		l    []api.Write
		want []uint64
	}{
		{nil, sealed(0)},
		{[]api.Write{{At: 5, Value: 7}}, sealed(1, 5, 7)},
		{[]api.Write{{At: 9, Value: math.MaxUint64}, {At: 0, Value: 0}, {At: 9, Value: 3}}, sealed(3, 9, math.MaxUint64, 0, 0, 9, 3)},
		{[]api.Write{{At: math.MaxInt, Value: 1}}, sealed(1, math.MaxInt, 1)},
	} {
		before := slices.Clone(c.l)
		got, e := record.Words(c.l)
		if e != api.OK || !slices.Equal(got, c.want) || !slices.Equal(c.l, before) {
			t.Errorf("%v: %v, %d", c.l, got, e)
		}
	}
	for _, c := range []struct {
		l    []api.Write
		want api.Errno
	}{
		{[]api.Write{{At: -1}}, api.ErrArg},
		{[]api.Write{{At: 5}, {At: math.MinInt}}, api.ErrArg},
		{make([]api.Write, 97), api.ErrMany},
		{append(make([]api.Write, 96), api.Write{At: -1}), api.ErrMany},
	} {
		if got, e := record.Words(c.l); e != c.want || len(got) != 0 {
			t.Errorf("%d writes: %v, %d", len(c.l), got, e)
		}
	}
	if got, e := record.Words(make([]api.Write, 96)); e != api.OK || len(got) != record.Size || record.Size != 194 {
		t.Errorf("as many as may be: %d words, %d", len(got), e)
	}
}

// P8.2, P8.4: Read of Words is what was written, whatever stands behind.
func TestReadOfWords(t *testing.T) {
	for _, l := range [][]api.Write{nil, {{At: 8, Value: 7}}, {{At: layout.InodeAt(g, 5), Value: math.MaxUint64}, {At: 9, Value: 0}}, blockWrites(95), blockWrites(96)} {
		words, _ := record.Words(l)
		for _, more := range [][]uint64{nil, {0}, {1, 2, 3}} {
			all := append(slices.Clone(words), more...)
			before := slices.Clone(all)
			if got, e := record.Read(g, all); e != api.OK || !slices.Equal(got, l) {
				t.Errorf("%d writes, %d words more: %v, %d", len(l), len(more), got, e)
			}
			if record.Mark(all) != record.Mark(words) || !slices.Equal(all, before) {
				t.Errorf("%d writes, %d words more: another mark, or words are turned", len(l), len(more))
			}
		}
	}
}

// P8.2: Read of what is no record.
func TestReadNone(t *testing.T) {
	good, _ := record.Words([]api.Write{{At: 8, Value: 7}, {At: 9, Value: 1}})
	bad := [][]uint64{nil, {}, {0}, {1}, {1, 8, 7}, {0, 0}, {97}, {math.MaxUint64}, {1 << 63, 1}, sealed(1, 8), sealed(1 << 62)}
	for i := range good {
		l := slices.Clone(good)
		l[i] ^= 1
		bad = append(bad, l, good[:i])
	}
	for _, at := range outside() {
		bad = append(bad, sealed(1, uint64(at), 7))
	}
	many := []uint64{97}
	for _, w := range blockWrites(97) {
		many = append(many, uint64(w.At), w.Value)
	}
	bad = append(bad, sealed(many...), sealed(2, 8, 7, 8, 7), sealed(1, 1<<63+8, 7), sealed(1, math.MaxUint64, 7))
	for _, words := range bad {
		if l, e := record.Read(g, words); e != api.ErrBytes || len(l) != 0 {
			t.Errorf("%v: %v, %d", words, l, e)
		}
	}
	if l, e := record.Read(layout.Geometry{}, good); e != api.ErrBytes || len(l) != 0 {
		t.Errorf("of a geometry that may not be: %v, %d", l, e)
	}
}

// P8.3: Mark.
func TestMark(t *testing.T) {
	empty, _ := record.Words(nil)
	for _, c := range []struct {
		words []uint64
		want  uint64
	}{
		{[]uint64{0, 0}, 0x0001},
		{[]uint64{0, 0x123456789abcdef0}, 0x56789abcdef00001},
		{[]uint64{0, math.MaxUint64, 5, 5}, 0xffffffffffff0001},
		{[]uint64{1, 2, 3, 0xaabbccddeeff0011}, 0xccddeeff00110101},
		{empty, sum.Of([]uint64{0})<<16 | 1},
		{append(append([]uint64{96}, make([]uint64, 192)...), 7), 7<<16 | 0x6001},
		{append(append([]uint64{96}, make([]uint64, 191)...), 7), 0},
		{make([]uint64, 1), 0}, {nil, 0}, {[]uint64{1, 2, 3}, 0},
		{append([]uint64{97}, make([]uint64, 300)...), 0},
		{append([]uint64{math.MaxUint64}, make([]uint64, 300)...), 0},
		{append([]uint64{1 << 63}, make([]uint64, 300)...), 0},
	} {
		if got := record.Mark(c.words); got != c.want {
			t.Errorf("%.5v: %x, not %x", c.words, got, c.want)
		}
	}
}

// P8.4: a Mark is never 0 of a record, and tells how many writes it has.
func TestMarkTells(t *testing.T) {
	for many := range 97 {
		words, _ := record.Words(blockWrites(many))
		m := record.Mark(words)
		if m == 0 || m&255 != 1 || m>>8&255 != uint64(many) || m>>16 != words[len(words)-1]&(1<<48-1) {
			t.Errorf("%d writes: %x", many, m)
		}
	}
}

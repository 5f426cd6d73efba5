package bitmap_test

import (
	"math"
	"slices"
	"testing"

	"grommet/api"
	"grommet/bitmap"
	"grommet/view"
)

const all = math.MaxUint64

// of so many bits, in words of their own behind one that is none of them.
func of(t *testing.T, at, many int, words ...uint64) (*bitmap.Map, *view.View) {
	t.Helper()
	v := view.New(words)
	m, e := bitmap.Of(v, at, many)
	if e != api.OK || m == nil {
		t.Fatalf("%d bits at %d: %d", many, at, e)
	}
	return m, v
}

// P6.1: Of.
func TestOf(t *testing.T) {
	v := view.New(make([]uint64, 3))
	for _, c := range []struct {
		at, many int
		want     api.Errno
	}{
		{0, 1, api.OK}, {0, 64, api.OK}, {0, 65, api.OK}, {0, 192, api.OK}, {2, 1, api.OK}, {2, 64, api.OK}, {1, 128, api.OK},
		{0, 193, api.ErrRange}, {2, 65, api.ErrRange}, {1, 129, api.ErrRange}, {3, 1, api.ErrRange}, {-1, 1, api.ErrRange}, {-1, 64, api.ErrRange},
		{math.MaxInt, 1, api.ErrRange}, {math.MinInt, 1, api.ErrRange}, {0, math.MaxInt, api.ErrRange}, {math.MaxInt, math.MaxInt, api.ErrRange}, {math.MinInt, math.MaxInt, api.ErrRange},
		{0, 0, api.ErrArg}, {0, -1, api.ErrArg}, {0, math.MinInt, api.ErrArg}, {-1, 0, api.ErrArg}, {9, -5, api.ErrArg},
	} {
		m, e := bitmap.Of(v, c.at, c.many)
		if e != c.want || (m == nil) != (e != api.OK) {
			t.Errorf("%d bits at %d: %d, not %d", c.many, c.at, e, c.want)
		}
	}
	for _, many := range []int{0, 1, 64} {
		if m, e := bitmap.Of(nil, -1, many); m != nil || e != api.ErrNil {
			t.Errorf("of no view: %d", e)
		}
	}
	if m, e := bitmap.Of(view.New(nil), 0, 1); m != nil || e != api.ErrRange {
		t.Errorf("of a view of nothing: %d", e)
	}
}

// P6.1: Get.
func TestGet(t *testing.T) {
	m, _ := of(t, 1, 70, all, 5|1<<63, 1<<3|1<<6|1<<40)
	ones := map[int]bool{0: true, 2: true, 63: true, 67: true}
	for i := -5; i < 140; i++ {
		if m.Get(i) != ones[i] {
			t.Errorf("bit %d: %v", i, m.Get(i))
		}
	}
	for _, i := range []int{math.MinInt, math.MaxInt} {
		if m.Get(i) {
			t.Errorf("bit %d is there", i)
		}
	}
}

// P6.1, P6.3: Set turns one bit alone.
func TestSet(t *testing.T) {
	for _, is := range []bool{true, false} {
		for i := range 130 {
			words := []uint64{0x5a5a, 0xf0f0f0f0f0f0f0f0, 0x123456789abcdef0, 0xaaaaaaaaaaaaaaaa, 7}
			m, v := of(t, 1, 130, words...)
			if e := m.Set(i, is); e != api.OK || m.Get(i) != is {
				t.Fatalf("bit %d: %d", i, e)
			}
			at := 1 + i/64
			words[at] &^= 1 << (i % 64)
			if is {
				words[at] |= 1 << (i % 64)
			}
			if !slices.Equal(v.Flat(), words) || !slices.Equal(v.Writes(), []api.Write{{At: at, Value: words[at]}}) {
				t.Fatalf("bit %d: %v", i, v.Writes())
			}
		}
	}
}

// P6.1: Set of no bit, and a view that takes no more.
func TestSetRefused(t *testing.T) {
	m, v := of(t, 0, 65, make([]uint64, 300)...)
	for _, i := range []int{math.MinInt, -1, 65, 127, 128, math.MaxInt} {
		if e := m.Set(i, true); e != api.ErrRange || len(v.Writes()) != 0 {
			t.Errorf("bit %d: %d", i, e)
		}
	}
	for i := range api.MaxWrites {
		v.Put(100+i, 1)
	}
	for _, is := range []bool{true, false} { // also of a bit that is so already
		if e := m.Set(3, is); e != api.ErrMany || m.Get(3) {
			t.Errorf("a view that is full: %d", e)
		}
		if e := m.Set(65, is); e != api.ErrRange {
			t.Errorf("no bit, in a view that is full: %d", e)
		}
	}
}

// P6.1: a bit that is so already is put all the same.
func TestSetSame(t *testing.T) {
	m, v := of(t, 0, 8, 5)
	if e := m.Set(0, true); e != api.OK || !slices.Equal(v.Writes(), []api.Write{{At: 0, Value: 5}}) {
		t.Errorf("1 over 1: %d, %v", e, v.Writes())
	}
	if e := m.Set(1, false); e != api.OK || !slices.Equal(v.Writes(), []api.Write{{At: 0, Value: 5}}) {
		t.Errorf("0 over 0: %d, %v", e, v.Writes())
	}
	if e := m.Set(1, true); e != api.OK || v.Get(0) != 7 {
		t.Errorf("1 over 0: %d, %d", e, v.Get(0))
	}
}

// P6.2: Clear, Count; what stands behind the bits says nothing, and stays.
func TestClearCount(t *testing.T) {
	for _, c := range []struct {
		many  int
		words []uint64
		clear int
		is    bool
		count int
	}{
		{3, []uint64{5}, 1, true, 2},
		{2, []uint64{3}, 0, false, 2},
		{2, []uint64{all}, 0, false, 2},
		{3, []uint64{3 | 1<<63}, 2, true, 2},
		{1, []uint64{all - 1}, 0, true, 0},
		{1, []uint64{1}, 0, false, 1},
		{64, []uint64{0}, 0, true, 0},
		{64, []uint64{all}, 0, false, 64},
		{64, []uint64{all >> 1}, 63, true, 63},
		{65, []uint64{all, all - 1}, 64, true, 64},
		{65, []uint64{all, 1}, 0, false, 65},
		{65, []uint64{all - 4, 1}, 2, true, 64},
		{128, []uint64{all, all >> 1}, 127, true, 127},
		{130, []uint64{all, all, 7}, 0, false, 130},
		{130, []uint64{all, all, 5}, 129, true, 129},
	} {
		m, v := of(t, 1, c.many, append(append([]uint64{0}, c.words...), 0)...)
		if n, is := m.Clear(); n != c.clear || is != c.is {
			t.Errorf("%d bits of %x: clear is %d, %v", c.many, c.words, n, is)
		}
		if n := m.Count(); n != c.count {
			t.Errorf("%d bits of %x: %d are 1", c.many, c.words, n)
		}
		if len(v.Writes()) != 0 {
			t.Errorf("%d bits of %x: something is put", c.many, c.words)
		}
	}
}

// P6.3: with Clear, Set, Clear, .. all bits that were 0 are told, rising.
func TestAllThatAreClear(t *testing.T) {
	m, v := of(t, 0, 150, 0x00ff00ff00ff00ff, all, 0xfffffffff0000f0f)
	var want, got []int
	for i := range 150 {
		if !m.Get(i) {
			want = append(want, i)
		}
	}
	for {
		i, is := m.Clear()
		if !is {
			break
		}
		got = append(got, i)
		if len(got) > 150 || m.Set(i, true) != api.OK {
			t.Fatalf("it does not end: %v", got)
		}
	}
	if !slices.Equal(got, want) || m.Count() != 150 {
		t.Errorf("%v, not %v", got, want)
	}
	if v.Get(2)>>22 != uint64(0xfffffffff0000f0f)>>22 {
		t.Errorf("what stands behind the bits is turned: %x", v.Get(2))
	}
}

// P6.1: a map looks at its view as it stands.
func TestViewIsLookedAt(t *testing.T) {
	m, v := of(t, 0, 4, 0)
	v.Put(0, 7)
	if n, is := m.Clear(); n != 3 || !is || m.Count() != 3 || !m.Get(2) {
		t.Error("a map keeps what its view had")
	}
	v.Drop()
	if m.Count() != 0 {
		t.Error("a map keeps what was put")
	}
}

// R4, P6.2: of no map.
func TestNoMap(t *testing.T) {
	var none *bitmap.Map
	n, is := none.Clear()
	if none.Get(0) || n != 0 || is || none.Count() != 0 || none.Set(0, true) != api.ErrNil || none.Set(-1, true) != api.ErrNil {
		t.Error("of no map something is told")
	}
}

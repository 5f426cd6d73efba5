package blocks_test

import (
	"math"
	"slices"
	"testing"

	"grommet/alloc"
	"grommet/api"
	"grommet/blocks"
	"grommet/inode"
	"grommet/layout"
	"grommet/view"
)

var g = layout.Geometry{Workers: 1, Inodes: 4, Blocks: 30}

// fresh: a view of a new device of so many blocks, and the map of its inode 1.
func fresh(t *testing.T, many int) (*view.View, *blocks.Map, layout.Geometry) {
	t.Helper()
	h := layout.Geometry{Workers: 1, Inodes: 4, Blocks: many}
	v := view.New(layout.Format(h))
	return v, of(t, v, h, 1), h
}

func of(t *testing.T, v *view.View, g layout.Geometry, n int) *blocks.Map {
	t.Helper()
	m, e := blocks.Of(v, g, n)
	if e != api.OK || m == nil {
		t.Fatalf("the map of %d: %d", n, e)
	}
	return m
}

// taken ends the test, unless a place takes that block.
func taken(t *testing.T, m *blocks.Map, k, want int) {
	t.Helper()
	if n, e := m.Take(k); n != want || e != api.OK {
		t.Fatalf("Take %d: %d, %d, not %d", k, n, e, want)
	}
}

// refused holds what Take tells against an error.
func refused(t *testing.T, m *blocks.Map, k int, want api.Errno) {
	t.Helper()
	if n, e := m.Take(k); n != 0 || e != want {
		t.Errorf("Take %d: %d, %d, not %d", k, n, e, want)
	}
}

func list(t *testing.T, m *blocks.Map, want ...int) {
	t.Helper()
	if l := m.List(); !slices.Equal(l, want) {
		t.Errorf("List: %v, not %v", l, want)
	}
}

// free: how many blocks are.
func free(v *view.View, g layout.Geometry) int {
	a, _ := alloc.New(v, g)
	_, n := a.Free()
	return n
}

// noPlaces: numbers that are none.
func noPlaces() []int {
	return []int{math.MinInt, -1, 12, 13, math.MaxInt}
}

// P13.1: Of.
func TestOf(t *testing.T) {
	whole := layout.Format(g)
	for _, c := range []struct {
		v    *view.View
		g    layout.Geometry
		n    int
		want api.Errno
	}{
		{view.New(whole), g, 1, api.OK}, {nil, layout.Geometry{}, 1, api.ErrNil}, {view.New(whole), layout.Geometry{}, 1, api.ErrArg}, {view.New(whole), g, 0, api.ErrArg}, {view.New(nil), g, 4, api.ErrArg},
		{view.New(whole[:len(whole)-1]), g, 1, api.ErrRange}, {view.New(whole), g, 2, api.ErrBytes},
	} {
		if m, e := blocks.Of(c.v, c.g, c.n); e != c.want || (m == nil) != (e != api.OK) {
			t.Errorf("%v, %d: %d, not %d", c.g, c.n, e, c.want)
		}
	}
}

// P13.1 to P13.3: the chapter's example.
func TestExample(t *testing.T) {
	v, m, h := fresh(t, 9)
	if m.Need(0) != 1 || m.Need(5) != 2 {
		t.Errorf("Need: %d, %d", m.Need(0), m.Need(5))
	}
	taken(t, m, 5, 2)
	if x, _ := inode.Get(v, h, 1); x.Chain != 1 || v.Get(layout.BlockAt(h, 1)+1) != 2 {
		t.Errorf("the chain: %v", x)
	}
	if m.Need(0) != 1 || m.Need(5) != 0 || m.Need(6) != 1 {
		t.Errorf("Need: %d, %d, %d", m.Need(0), m.Need(5), m.Need(6))
	}
	taken(t, m, 0, 3)
	taken(t, m, 5, 2)
	taken(t, m, 0, 3)
	list(t, m, 3, 2, 1)
	if e := m.Drop(5); e != api.OK {
		t.Error(e)
	}
	list(t, m, 3)
	if x, _ := inode.Get(v, h, 1); x.Chain != 0 || free(v, h) != 7 {
		t.Errorf("the chain is not given back: %v, %d", x, free(v, h))
	}
	if e := m.Cut(0); e != api.OK {
		t.Error(e)
	}
	list(t, m)
}

// P13.1: At, of what stands in the view, as it is now.
func TestAt(t *testing.T) {
	v, m, h := fresh(t, 30)
	first, chain := layout.InodeAt(h, 1)+4, layout.BlockAt(h, 9)
	for k := range 12 {
		if n, e := m.At(k); n != 0 || e != api.OK {
			t.Errorf("At %d of nothing: %d, %d", k, n, e)
		}
	}
	for k := range 4 {
		v.Put(first+k, uint64(20+k))
	}
	for k := range 8 {
		v.Put(chain+k, uint64(10+k))
	}
	v.Put(first+4, 9)
	for k := range 12 {
		want := 20 + k
		if k > 3 {
			want = 10 + k - 4
		}
		if n, e := m.At(k); n != want || e != api.OK {
			t.Errorf("At %d: %d, %d", k, n, e)
		}
	}
	list(t, m, 20, 21, 22, 23, 10, 11, 12, 13, 14, 15, 16, 17, 9)
	for _, k := range noPlaces() {
		if n, e := m.At(k); n != 0 || e != api.ErrArg || m.Need(k) != 0 || m.Drop(k) != api.ErrArg {
			t.Errorf("At %d: %d, %d", k, n, e)
		}
		refused(t, m, k, api.ErrArg)
	}
	l := m.List()
	clear(l)
	list(t, m, 20, 21, 22, 23, 10, 11, 12, 13, 14, 15, 16, 17, 9)
}

// P13.1 to P13.3: words that say nothing.
func TestSpoilt(t *testing.T) {
	v, m, h := fresh(t, 30)
	taken(t, m, 4, 2)
	taken(t, m, 0, 3)
	for _, w := range []uint64{30, 1 << 63, math.MaxUint64} {
		v.Put(layout.BlockAt(h, 1)+1, w)
		if n, e := m.At(5); n != 0 || e != api.ErrBytes || m.Need(5) != 0 || m.Drop(5) != api.ErrBytes {
			t.Errorf("%d in a chain: %d, %d", w, n, e)
		}
		refused(t, m, 5, api.ErrBytes)
		if n, e := m.At(4); n != 2 || e != api.OK {
			t.Errorf("ahead of it: %d, %d", n, e)
		}
		list(t, m)
	}
	if e := m.Cut(4); e != api.ErrBytes || free(v, h) != 27 {
		t.Errorf("Cut up to the first error: %d, %d", e, free(v, h))
	}
	v.Put(layout.InodeAt(h, 1), 7)
	if n, e := m.At(0); n != 0 || e != api.ErrBytes || m.Need(0) != 0 || m.Drop(0) != api.ErrBytes || m.Cut(0) != api.ErrBytes || m.Cut(12) != api.OK {
		t.Errorf("an inode that is not right: %d, %d", n, e)
	}
	refused(t, m, 0, api.ErrBytes)
	list(t, m)
}

// P13.2: what Take puts, and in which order.
func TestWhatTakePuts(t *testing.T) {
	v, m, h := fresh(t, 30)
	noughts := func(n int) []api.Write {
		var l []api.Write
		for i := range 8 {
			l = append(l, api.Write{At: layout.BlockAt(h, n) + i})
		}
		return l
	}
	taken(t, m, 2, 1)
	want := append([]api.Write{{At: layout.BlockMapAt(h), Value: 3}}, append(noughts(1), api.Write{At: layout.InodeAt(h, 1) + 6, Value: 1})...)
	if l := v.Writes(); !slices.Equal(l, want) {
		t.Errorf("a place below 4: %v, not %v", l, want)
	}
	v = view.New(v.Flat())
	m = of(t, v, h, 1)
	taken(t, m, 11, 3)
	want = append([]api.Write{{At: layout.BlockMapAt(h), Value: 15}}, noughts(2)...)
	want = append(append(want, api.Write{At: layout.InodeAt(h, 1) + 8, Value: 2}), noughts(3)...)
	want[8].Value = 3
	if l := v.Writes(); !slices.Equal(l, want) {
		t.Errorf("a place above 3: %v, not %v", l, want)
	}
	v.Drop()
	if n, e := m.Take(2); n != 1 || e != api.OK || len(v.Writes()) != 0 {
		t.Errorf("a place that has one: %d, %d, %v", n, e, v.Writes())
	}
}

// P13.2: what is taken is noughts, also where the block was not.
func TestTakenIsNoughts(t *testing.T) {
	h := layout.Geometry{Workers: 1, Inodes: 4, Blocks: 9}
	words := layout.Format(h)
	for at := layout.BlockAt(h, 0); at < len(words); at++ {
		words[at] = math.MaxUint64
	}
	v := view.New(words)
	m := of(t, v, h, 1)
	taken(t, m, 7, 2)
	for i := range 8 {
		chain := uint64(0)
		if i == 3 {
			chain = 2
		}
		if v.Get(layout.BlockAt(h, 1)+i) != chain || v.Get(layout.BlockAt(h, 2)+i) != 0 {
			t.Errorf("the word %d is not 0", i)
		}
	}
}

// P13.2: want of room turns nothing.
func TestSpace(t *testing.T) {
	v, m, _ := fresh(t, 2)
	refused(t, m, 4, api.ErrSpace)
	if len(v.Writes()) != 0 {
		t.Errorf("put is %v", v.Writes())
	}
	taken(t, m, 3, 1)
	refused(t, m, 0, api.ErrSpace)
	refused(t, m, 11, api.ErrSpace)
	taken(t, m, 3, 1)
	v, m, _ = fresh(t, 3)
	taken(t, m, 4, 2)
	refused(t, m, 5, api.ErrSpace)
	list(t, m, 2, 1)
}

// P13.2: the block 0, as a spoilt map may tell it, is set to nothing.
func TestBlockNought(t *testing.T) {
	v, m, h := fresh(t, 9)
	v.Put(layout.BlockMapAt(h), 0)
	refused(t, m, 1, api.ErrBytes)
	list(t, m)
	if v.Get(layout.BlockMapAt(h)) != 1 {
		t.Error("what was put ahead does not stay")
	}
	v.Put(layout.BlockMapAt(h), 0)
	refused(t, m, 4, api.ErrBytes)
	if x, _ := inode.Get(v, h, 1); x.Chain != 0 {
		t.Errorf("a chain of 0: %v", x)
	}
	v.Put(layout.BlockMapAt(h), 1)
	taken(t, m, 4, 2)
	v.Put(layout.BlockMapAt(h), 6)
	refused(t, m, 5, api.ErrBytes)
	list(t, m, 2, 1)
}

// full puts so many words that a view takes so many more.
func full(v *view.View, left int) {
	at := layout.AreaAt(g, 0)
	for len(v.Writes()) < api.MaxWrites-left {
		v.Put(at, 0)
		at++
	}
}

// P13.2, P13.3: a view that takes no more: what was put ahead stays.
func TestMany(t *testing.T) {
	for left := range 20 {
		v, m, h := fresh(t, 9)
		full(v, left)
		n, e := m.Take(4)
		if left < 18 && (n != 0 || e != api.ErrMany) || left >= 18 && (n != 2 || e != api.OK) {
			t.Errorf("%d words left: %d, %d", left, n, e)
		}
		if x, _ := inode.Get(v, h, 1); (x.Chain != 0) != (left >= 10) || (v.Get(layout.BlockMapAt(h)) == 1) != (left == 0) {
			t.Errorf("%d words left: what was put ahead: %v", left, x)
		}
	}
	for left := range 5 {
		v, m, h := fresh(t, 9)
		taken(t, m, 4, 2)
		v = view.New(v.Flat())
		m = of(t, v, h, 1)
		full(v, left)
		want := api.ErrMany
		if left >= 3 {
			want = api.OK
		}
		if e := m.Drop(4); e != want {
			t.Errorf("%d words left: Drop: %d", left, e)
		}
	}
}

// P13.3: Drop gives the block back, then the Chain, if it has nothing any more.
func TestDrop(t *testing.T) {
	v, m, h := fresh(t, 9)
	for _, k := range []int{0, 11, 4} {
		if e := m.Drop(k); e != api.OK || len(v.Writes()) != 0 {
			t.Errorf("Drop %d of nothing: %d", k, e)
		}
	}
	taken(t, m, 4, 2)
	taken(t, m, 11, 3)
	taken(t, m, 0, 4)
	v = view.New(v.Flat())
	m = of(t, v, h, 1)
	drop := func(k int, want api.Errno, puts ...api.Write) {
		t.Helper()
		e := m.Drop(k)
		if l := v.Writes(); e != want || !slices.Equal(l, puts) {
			t.Errorf("Drop %d: %d, %v, not %v", k, e, l, puts)
		}
		v = view.New(v.Flat())
		m = of(t, v, h, 1)
	}
	bits, node := layout.BlockMapAt(h), layout.InodeAt(h, 1)
	drop(4, api.OK, api.Write{At: bits, Value: 27}, api.Write{At: layout.BlockAt(h, 1)})
	drop(0, api.OK, api.Write{At: bits, Value: 11}, api.Write{At: node + 4})
	drop(11, api.OK, api.Write{At: bits, Value: 1}, api.Write{At: layout.BlockAt(h, 1) + 7}, api.Write{At: node + 8})
	v.Put(node+4, 5) // a block that is free, as a spoilt map tells
	v = view.New(v.Flat())
	m = of(t, v, h, 1)
	drop(0, api.ErrState)
	if n, _ := m.At(0); n != 5 {
		t.Error("what could not be given back is turned")
	}
}

// P13.3: a Chain that has nothing goes with a place below 4, too; one that is free is told.
func TestBareChain(t *testing.T) {
	v, m, h := fresh(t, 9)
	taken(t, m, 0, 1)
	v.Put(layout.InodeAt(h, 1)+8, 5)
	if e := m.Drop(0); e != api.ErrState {
		t.Errorf("a chain that is free: %d", e)
	}
	taken(t, m, 0, 1)
	v.Put(layout.BlockMapAt(h), 1|2|32)
	if e := m.Drop(0); e != api.OK || free(v, h) != 8 {
		t.Errorf("a chain that has nothing: %d, %d", e, free(v, h))
	}
	list(t, m)
}

// P13.3: Cut.
func TestCut(t *testing.T) {
	for from := range 13 {
		v, m, h := fresh(t, 30)
		for _, k := range []int{0, 2, 3, 4, 7, 11} {
			if _, e := m.Take(k); e != api.OK {
				t.Fatal(e)
			}
		}
		if e := m.Cut(from); e != api.OK {
			t.Errorf("Cut %d: %d", from, e)
		}
		left := 0
		for k := range 12 {
			n, _ := m.At(k)
			if (n != 0) != (k < from && slices.Contains([]int{0, 2, 3, 4, 7, 11}, k)) {
				t.Errorf("Cut %d: the place %d has %d", from, k, n)
			}
			if n != 0 {
				left++
			}
		}
		if from > 4 {
			left++ // the chain
		}
		if free(v, h) != 29-left || len(m.List()) != left {
			t.Errorf("Cut %d: %d are free, %v left", from, free(v, h), m.List())
		}
	}
	_, m, _ := fresh(t, 9)
	for _, k := range []int{math.MinInt, -1, 13, math.MaxInt} {
		if e := m.Cut(k); e != api.ErrArg {
			t.Errorf("Cut %d: %d", k, e)
		}
	}
}

// R4, P13.3: of no map.
func TestNoMap(t *testing.T) {
	var none *blocks.Map
	if n, e := none.At(-1); n != 0 || e != api.ErrNil {
		t.Error("At: ", n, e)
	}
	refused(t, none, -1, api.ErrNil)
	if none.Need(0) != 0 || none.Drop(-1) != api.ErrNil || none.Cut(-1) != api.ErrNil || none.Cut(12) != api.ErrNil {
		t.Error("of no map something is told")
	}
	list(t, none)
}

// P13.4: no block is at two places, as many are free as Need told less, what is cut off is free.
func TestWhateverIsTaken(t *testing.T) {
	seed := uint64(9)
	next := func(n int) int {
		seed = seed*6364136223846793005 + 1442695040888963407
		return int((seed >> 33) % uint64(n))
	}
	words := layout.Format(g)
	for n := 2; n < 4; n++ {
		copy(words[layout.InodeAt(g, n):], []uint64{api.IsFile, 1})
	}
	for range 3000 {
		v := view.New(words)
		m, k := of(t, v, g, 1+next(3)), next(12)
		before, need := free(v, g), m.Need(k)
		switch next(4) {
		case 0, 1:
			n, e := m.Take(k)
			if need > before {
				if e != api.ErrSpace || len(v.Writes()) != 0 {
					t.Fatalf("want of room: %d", e)
				}
			} else if at, _ := m.At(k); e != api.OK || n == 0 || at != n || free(v, g) != before-need {
				t.Fatalf("Take: %d, %d; %d were free, %d are", n, e, before, free(v, g))
			}
		case 2:
			if e := m.Drop(k); e != api.OK {
				t.Fatal("Drop: ", e)
			}
		case 3:
			if next(5) == 0 {
				if e := m.Cut(0); e != api.OK || len(m.List()) != 0 {
					t.Fatal("Cut: ", e)
				}
			}
		}
		came := map[int]bool{}
		for n := 1; n < 4; n++ {
			for _, b := range of(t, v, g, n).List() {
				if came[b] {
					t.Fatalf("the block %d is at two places", b)
				}
				came[b] = true
			}
			if x, _ := inode.Get(v, g, n); x.Chain != 0 && len(of(t, v, g, n).List()) == 1 {
				t.Fatal("a chain has nothing")
			}
		}
		if free(v, g) != 29-len(came) {
			t.Fatalf("%d are free, %d taken", free(v, g), len(came))
		}
		view.Apply(words, v.Writes())
	}
}

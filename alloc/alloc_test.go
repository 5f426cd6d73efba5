package alloc_test

import (
	"math"
	"slices"
	"testing"

	"grommet/alloc"
	"grommet/api"
	"grommet/layout"
	"grommet/view"
)

// small: a geometry of which one soon has all.
var small = layout.Geometry{Workers: 1, Inodes: 3, Blocks: 4}

// of a view of a new device.
func of(t *testing.T, g layout.Geometry) (*alloc.Alloc, *view.View) {
	t.Helper()
	return on(t, g, view.New(layout.Format(g)))
}

func on(t *testing.T, g layout.Geometry, v *view.View) (*alloc.Alloc, *view.View) {
	t.Helper()
	a, e := alloc.New(v, g)
	if e != api.OK || a == nil {
		t.Fatalf("%v: %d", g, e)
	}
	return a, v
}

// free holds how many are free against what must be.
func free(t *testing.T, a *alloc.Alloc, inodes, blocks int) {
	t.Helper()
	if i, b := a.Free(); i != inodes || b != blocks {
		t.Errorf("free are %d, %d, not %d, %d", i, b, inodes, blocks)
	}
}

// is holds a number, and an error, against what must be told.
func is(t *testing.T, what string, n int, e api.Errno, want int, error api.Errno) {
	t.Helper()
	if n != want || e != error {
		t.Errorf("%s: %d, %d, not %d, %d", what, n, e, want, error)
	}
}

// P7.1: New.
func TestNew(t *testing.T) {
	whole := layout.Format(small)
	for _, c := range []struct {
		v    *view.View
		g    layout.Geometry
		want api.Errno
	}{
		{view.New(whole), small, api.OK},
		{view.New(append(whole, 1, 2)), small, api.OK},
		{view.New(whole[:len(whole)-1]), small, api.ErrRange},
		{view.New(nil), small, api.ErrRange},
		{view.New(whole), layout.Geometry{Workers: 2, Inodes: 3, Blocks: 4}, api.ErrRange},
		{view.New(whole), layout.Geometry{Workers: 1, Inodes: 1, Blocks: 4}, api.ErrArg},
		{view.New(nil), layout.Geometry{}, api.ErrArg},
		{nil, small, api.ErrNil},
		{nil, layout.Geometry{}, api.ErrNil},
	} {
		if a, e := alloc.New(c.v, c.g); e != c.want || (a == nil) != (e != api.OK) {
			t.Errorf("%v: %d, not %d", c.g, e, c.want)
		}
	}
}

// P7.1: Free, by the maps alone; bits behind the last one say nothing.
func TestFree(t *testing.T) {
	a, v := of(t, small)
	free(t, a, 1, 3)
	v.Put(layout.InodeMapAt(small), math.MaxUint64-2)
	v.Put(layout.BlockMapAt(small), 1<<40)
	free(t, a, 1, 4)
	v.Put(layout.InodeMapAt(small), 0)
	v.Put(layout.BlockMapAt(small), 15)
	free(t, a, 3, 0)
	v.Put(layout.BlockMapAt(small)+1, math.MaxUint64)
	free(t, a, 3, 0)
	a, _ = of(t, layout.Geometry{Workers: 1, Inodes: 64, Blocks: 512})
	free(t, a, 62, 511)
	a, _ = of(t, layout.Geometry{Workers: 1, Inodes: 2, Blocks: 2})
	free(t, a, 0, 1)
}

// P7.2: Take and Give, as in the chapter's example, and on.
func TestTakeGive(t *testing.T) {
	a, _ := of(t, small)
	inode := func(want int, error api.Errno) {
		t.Helper()
		n, e := a.TakeInode()
		is(t, "an inode", n, e, want, error)
	}
	block := func(want int, error api.Errno) {
		t.Helper()
		n, e := a.TakeBlock()
		is(t, "a block", n, e, want, error)
	}
	inode(2, api.OK)
	free(t, a, 0, 3)
	inode(0, api.ErrSpace)
	block(1, api.OK)
	block(2, api.OK)
	free(t, a, 0, 1)
	is(t, "give of a block", 0, a.GiveBlock(1), 0, api.OK)
	free(t, a, 0, 2)
	is(t, "give again", 0, a.GiveBlock(1), 0, api.ErrState)
	block(1, api.OK)
	block(3, api.OK)
	block(0, api.ErrSpace)
	free(t, a, 0, 0)
	is(t, "give of an inode", 0, a.GiveInode(2), 0, api.OK)
	is(t, "give again", 0, a.GiveInode(2), 0, api.ErrState)
	is(t, "give of an inode", 0, a.GiveInode(1), 0, api.OK)
	free(t, a, 2, 0)
	inode(1, api.OK)
	inode(2, api.OK)
}

// P7.2: what is put, and in which order.
func TestWhatIsPut(t *testing.T) {
	g := layout.Geometry{Workers: 2, Inodes: 9, Blocks: 200}
	words := layout.Format(g)
	maps := layout.BlockMapAt(g)
	words[maps], words[maps+1] = math.MaxUint64, 1
	for i := range 8 {
		words[layout.BlockAt(g, 65)+i] = 7
	}
	a, v := on(t, g, view.New(words))
	n, e := a.TakeBlock()
	is(t, "a block", n, e, 65, api.OK)
	want := []api.Write{{At: maps + 1, Value: 3}}
	for i := range 8 {
		want = append(want, api.Write{At: layout.BlockAt(g, 65) + i, Value: 0})
	}
	if got := v.Writes(); !slices.Equal(got, want) {
		t.Errorf("of a block: %v, not %v", got, want)
	}
	v.Drop()
	n, e = a.TakeInode()
	is(t, "an inode", n, e, 2, api.OK)
	if got := v.Writes(); !slices.Equal(got, []api.Write{{At: layout.InodeMapAt(g), Value: 7}}) {
		t.Errorf("of an inode: %v", got)
	}
	v.Drop()
	is(t, "give", 0, a.GiveBlock(64), 0, api.OK)
	is(t, "give", 0, a.GiveInode(1), 0, api.OK)
	if got := v.Writes(); !slices.Equal(got, []api.Write{{At: maps + 1, Value: 0}, {At: layout.InodeMapAt(g), Value: 1}}) {
		t.Errorf("of what is given back: %v", got)
	}
}

// P7.2: Give of none.
func TestGiveNone(t *testing.T) {
	a, v := of(t, small)
	for _, n := range []int{math.MinInt, -1, 0, 3, 64, math.MaxInt} {
		is(t, "inode", n, a.GiveInode(n), n, api.ErrArg)
	}
	for _, n := range []int{math.MinInt, -1, 0, 4, 64, math.MaxInt} {
		is(t, "block", n, a.GiveBlock(n), n, api.ErrArg)
	}
	is(t, "a free inode", 0, a.GiveInode(2), 0, api.ErrState)
	is(t, "a free block", 0, a.GiveBlock(3), 0, api.ErrState)
	if len(v.Writes()) != 0 {
		t.Error("what is refused puts")
	}
}

// P7.2: Used.
func TestUsed(t *testing.T) {
	a, _ := of(t, small)
	if a.Used(1) || a.Used(3) {
		t.Error("a free block is used")
	}
	a.TakeBlock()
	if !a.Used(1) || a.Used(2) {
		t.Error("a block that was taken is free")
	}
	a.GiveBlock(1)
	for _, n := range []int{math.MinInt, -1, 1, 4, 64, math.MaxInt} {
		if a.Used(n) {
			t.Errorf("block %d is used", n)
		}
	}
}

// P7.2: a view that takes no more: what was put ahead stays.
func TestMany(t *testing.T) {
	fill := func(left int) (*alloc.Alloc, *view.View) {
		a, v := of(t, small)
		for i := range api.MaxWrites - left {
			v.Put(i, 0)
		}
		return a, v
	}
	for left := range 9 {
		a, v := fill(left)
		n, e := a.TakeBlock()
		is(t, "a block", n, e, 0, api.ErrMany)
		if a.Used(1) != (left > 0) || len(v.Writes()) != api.MaxWrites {
			t.Errorf("%d writes left: used %v", left, a.Used(1))
		}
	}
	a, _ := fill(9)
	n, e := a.TakeBlock()
	is(t, "a block", n, e, 1, api.OK)
	is(t, "of a word that was put", 0, a.GiveBlock(1), 0, api.OK)
	is(t, "of a word that was not", 0, a.GiveInode(1), 0, api.ErrMany)
	n, e = a.TakeInode()
	is(t, "an inode", n, e, 0, api.ErrMany)
}

// P7.2: words of a spoilt map: the number 0 may be taken there.
func TestSpoilt(t *testing.T) {
	words := layout.Format(small)
	words[layout.InodeMapAt(small)], words[layout.BlockMapAt(small)] = 0, 2
	a, _ := on(t, small, view.New(words))
	n, e := a.TakeInode()
	is(t, "an inode", n, e, 0, api.OK)
	n, e = a.TakeBlock()
	is(t, "a block", n, e, 0, api.OK)
	n, e = a.TakeBlock()
	is(t, "a block", n, e, 2, api.OK)
}

// P7.3: none is taken twice, 0 never, and what is free is exact.
func TestNoneTwice(t *testing.T) {
	g := layout.Geometry{Workers: 1, Inodes: 20, Blocks: 70}
	words := layout.Format(g)
	seed := uint64(3)
	next := func(n int) int {
		seed = seed*6364136223846793005 + 1442695040888963407
		return int((seed >> 33) % uint64(n))
	}
	held := [2]map[int]bool{{1: true}, {}}
	for range 2000 {
		a, v := on(t, g, view.New(words))
		kind := next(2)
		if next(2) == 0 {
			n, e := []func() (int, api.Errno){a.TakeInode, a.TakeBlock}[kind]()
			if e == api.OK && (n == 0 || held[kind][n]) || e != api.OK && (n != 0 || e != api.ErrSpace) {
				t.Fatalf("taken is %d, %d, of %v", n, e, held[kind])
			}
			if e == api.OK {
				held[kind][n] = true
			}
		} else {
			n := next([]int{22, 72}[kind]) - 1
			e := []func(int) api.Errno{a.GiveInode, a.GiveBlock}[kind](n)
			if (e == api.OK) != held[kind][n] {
				t.Fatalf("given back is %d, %d, of %v", n, e, held[kind])
			}
			delete(held[kind], n)
		}
		free(t, a, 19-len(held[0]), 69-len(held[1]))
		view.Apply(words, v.Writes())
	}
}

// R4, P7.2: of no alloc.
func TestNoAlloc(t *testing.T) {
	var none *alloc.Alloc
	free(t, none, 0, 0)
	n, e := none.TakeInode()
	is(t, "an inode", n, e, 0, api.ErrNil)
	n, e = none.TakeBlock()
	is(t, "a block", n, e, 0, api.ErrNil)
	is(t, "give", 0, none.GiveInode(0), 0, api.ErrNil)
	is(t, "give", 0, none.GiveBlock(-1), 0, api.ErrNil)
	if none.Used(1) {
		t.Error("a block is used")
	}
}

package fd_test

import (
	"math"
	"slices"
	"testing"

	"grommet/alloc"
	"grommet/api"
	"grommet/data"
	"grommet/fd"
	"grommet/inode"
	"grommet/layout"
	"grommet/name"
	"grommet/view"
)

var g = layout.Geometry{Workers: 1, Inodes: 9, Blocks: 30}

// fresh: a view of a new device with a file /f (2), a directory /d (3) and a file /h (4).
func fresh(t *testing.T) *view.View {
	t.Helper()
	words := layout.Format(g)
	for i, s := range []string{"/f", "/d", "/h"} {
		v := view.New(words)
		if n, e := name.Make(v, g, s, []uint64{api.IsFile, api.IsDir, api.IsFile}[i]); n != 2+i || e != api.OK {
			t.Fatal(n, e)
		}
		view.Apply(words, v.Writes())
	}
	return view.New(words)
}

func open(t *testing.T, v *view.View, i, n, want int, error api.Errno) {
	t.Helper()
	if k, e := fd.Open(v, g, i, n); k != want || e != error {
		t.Errorf("Open %d, %d: %d, %d, not %d, %d", i, n, k, e, want, error)
	}
}

func get(t *testing.T, v *view.View, i int, k uint64, want fd.Desc, error api.Errno) {
	t.Helper()
	if x, e := fd.Get(v, g, i, k); x != want || e != error {
		t.Errorf("Get %d, %d: %v, %d, not %v, %d", i, k, x, e, want, error)
	}
}

// is holds an error against what must be told.
func is(t *testing.T, what string, e, want api.Errno) {
	t.Helper()
	if e != want {
		t.Errorf("%s: %d, not %d", what, e, want)
	}
}

// opens of an inode.
func opens(v *view.View, n int) uint64 {
	x, _ := inode.Get(v, g, n)
	return x.Opens
}

// P19.1 to P19.3: the chapter's example.
func TestExample(t *testing.T) {
	v := fresh(t)
	open(t, v, 0, 2, 0, api.OK)
	open(t, v, 0, 2, 1, api.OK)
	is(t, "Seek", fd.Seek(v, g, 0, 1, 5), api.OK)
	get(t, v, 0, 1, fd.Desc{Inode: 2, Place: 5}, api.OK)
	get(t, v, 0, 0, fd.Desc{Inode: 2}, api.OK)
	is(t, "Unlink", name.Unlink(v, g, "/f"), api.OK)
	is(t, "Close", fd.Close(v, g, 0, 0), api.OK)
	if _, e := inode.Get(v, g, 2); e != api.OK {
		t.Errorf("inode 2 is away: %d", e)
	}
	is(t, "CloseAll", fd.CloseAll(v, g, 0), api.OK)
	if _, e := inode.Get(v, g, 2); e != api.ErrBytes {
		t.Errorf("inode 2 is there: %d", e)
	}
	get(t, v, 0, 0, fd.Desc{}, api.ErrFd)
	open(t, v, 0, 1, 0, api.ErrIsDir)
}

// raw puts a descriptor's words.
func raw(v *view.View, i, k int, n, place uint64) {
	v.Put(layout.DescriptorAt(i, k), n)
	v.Put(layout.DescriptorAt(i, k)+1, place)
}

// P19.1: Get, of what stands there.
func TestGet(t *testing.T) {
	v := fresh(t)
	for i := range 4 {
		for k := range uint64(4) {
			get(t, v, i, k, fd.Desc{}, api.ErrFd)
			raw(v, i, int(k), 8, 768)
			get(t, v, i, k, fd.Desc{Inode: 8, Place: 768}, api.OK)
		}
		for _, k := range []uint64{4, 5, 1 << 32, 1 << 63, math.MaxUint64} {
			get(t, v, i, k, fd.Desc{}, api.ErrFd)
		}
	}
	for _, c := range []struct {
		n, place uint64
		want     api.Errno
	}{{0, 0, api.ErrFd}, {0, 769, api.ErrFd}, {9, 0, api.ErrBytes}, {1 << 63, 0, api.ErrBytes}, {math.MaxUint64, 5, api.ErrBytes}, {1<<32 + 2, 5, api.ErrBytes}, {2, 769, api.ErrBytes}, {2, math.MaxUint64, api.ErrBytes}} {
		raw(v, 2, 1, c.n, c.place)
		get(t, v, 2, 1, fd.Desc{}, c.want)
		is(t, "Seek", fd.Seek(v, g, 2, 1, 0), c.want)
		is(t, "Close", fd.Close(v, g, 2, 1), c.want)
	}
}

// P19.1 to P19.3: errors of the view, the geometry and the session.
func TestRefused(t *testing.T) {
	whole := fresh(t).Flat()
	for _, c := range []struct {
		what string
		v    *view.View
		g    layout.Geometry
		i    int
		want api.Errno
	}{
		{"no view", nil, layout.Geometry{}, -1, api.ErrNil}, {"no geometry", view.New(nil), layout.Geometry{}, 0, api.ErrArg},
		{"session -1", view.New(nil), g, -1, api.ErrArg}, {"session 4", view.New(whole), g, 4, api.ErrArg}, {"the least", view.New(whole), g, math.MinInt, api.ErrArg},
		{"no words", view.New(nil), g, 3, api.ErrRange}, {"a word too few", view.New(whole[:len(whole)-1]), g, 0, api.ErrRange},
	} {
		x, e := fd.Get(c.v, c.g, c.i, 9)
		k, e2 := fd.Open(c.v, c.g, c.i, 0)
		for call, e := range []api.Errno{e, e2, fd.Seek(c.v, c.g, c.i, 9, 999), fd.Close(c.v, c.g, c.i, 9), fd.CloseAll(c.v, c.g, c.i)} {
			if e != c.want || x != (fd.Desc{}) || k != 0 {
				t.Errorf("%s: call %d: %d, not %d", c.what, call, e, c.want)
			}
		}
	}
}

// P19.2: Open takes the least closed descriptor, up to all of the session.
func TestOpen(t *testing.T) {
	v := fresh(t)
	for _, n := range []int{math.MinInt, 0, 9, math.MaxInt} {
		open(t, v, 1, n, 0, api.ErrArg)
	}
	open(t, v, 1, 5, 0, api.ErrBytes)
	open(t, v, 1, 3, 0, api.ErrIsDir)
	for k := range 4 {
		open(t, v, 1, 2+2*(k%2), k, api.OK)
	}
	open(t, v, 1, 2, 0, api.ErrFds)
	open(t, v, 1, 3, 0, api.ErrIsDir)
	open(t, v, 1, 5, 0, api.ErrBytes)
	if opens(v, 2) != 2 || opens(v, 4) != 2 {
		t.Errorf("opens: %d, %d", opens(v, 2), opens(v, 4))
	}
	is(t, "Close", fd.Close(v, g, 1, 2), api.OK)
	open(t, v, 1, 4, 2, api.OK)
	open(t, v, 2, 4, 0, api.OK)
	if opens(v, 2) != 1 || opens(v, 4) != 4 {
		t.Errorf("opens: %d, %d", opens(v, 2), opens(v, 4))
	}
}

// P19.2: an inode that has all opens that may be; what Open puts, and in which order.
func TestOpens(t *testing.T) {
	v := fresh(t)
	at := layout.InodeAt(g, 2) + inode.Opens
	v.Put(at, 16)
	open(t, v, 0, 2, 0, api.ErrBytes)
	for k := range 4 {
		raw(v, 0, k, 2, 0)
	}
	open(t, v, 0, 2, 0, api.ErrFds)
	raw(v, 0, 3, 0, 77) // closed, wherever it stands
	v.Put(at, 15)
	v = view.New(v.Flat())
	open(t, v, 0, 2, 3, api.OK)
	d := layout.DescriptorAt(0, 3)
	if l, want := v.Writes(), []api.Write{{At: d, Value: 2}, {At: d + 1, Value: 0}, {At: at, Value: 16}}; !slices.Equal(l, want) {
		t.Errorf("put is %v, not %v", l, want)
	}
}

// P19.3: Seek turns the place alone.
func TestSeek(t *testing.T) {
	v := fresh(t)
	open(t, v, 3, 2, 0, api.OK)
	v = view.New(v.Flat())
	for _, place := range []uint64{769, 1 << 63, math.MaxUint64} {
		is(t, "Seek", fd.Seek(v, g, 3, 0, place), api.ErrRange)
		is(t, "Seek of none", fd.Seek(v, g, 3, 1, place), api.ErrFd)
	}
	is(t, "Seek", fd.Seek(v, g, 3, 0, 0), api.OK)
	if len(v.Writes()) != 0 {
		t.Errorf("put is %v", v.Writes())
	}
	is(t, "Seek", fd.Seek(v, g, 3, 0, 768), api.OK)
	if l := v.Writes(); !slices.Equal(l, []api.Write{{At: layout.DescriptorAt(3, 0) + 1, Value: 768}}) {
		t.Errorf("put is %v", l)
	}
	get(t, v, 3, 0, fd.Desc{Inode: 2, Place: 768}, api.OK)
}

// P19.3: Close, what it puts, and what it tells of what is spoilt.
func TestClose(t *testing.T) {
	v := fresh(t)
	open(t, v, 0, 2, 0, api.OK)
	is(t, "Seek", fd.Seek(v, g, 0, 0, 9), api.OK)
	v = view.New(v.Flat())
	is(t, "Close", fd.Close(v, g, 0, 0), api.OK)
	d := layout.DescriptorAt(0, 0)
	if l, want := v.Writes(), []api.Write{{At: d}, {At: d + 1}, {At: layout.InodeAt(g, 2) + inode.Opens}}; !slices.Equal(l, want) {
		t.Errorf("put is %v, not %v", l, want)
	}
	is(t, "Close again", fd.Close(v, g, 0, 0), api.ErrFd)
	is(t, "Close of none", fd.Close(v, g, 0, 4), api.ErrFd)
	is(t, "Close of none", fd.Close(v, g, 0, math.MaxUint64), api.ErrFd)
	raw(v, 1, 0, 4, 0)
	is(t, "no opens", fd.Close(v, g, 1, 0), api.ErrBytes)
	raw(v, 1, 0, 7, 0)
	is(t, "no inode", fd.Close(v, g, 1, 0), api.ErrBytes)
	get(t, v, 1, 0, fd.Desc{Inode: 7}, api.OK)
}

// P19.3: CloseAll closes all of the session, from 0 on, up to the first error.
func TestCloseAll(t *testing.T) {
	v := fresh(t)
	is(t, "of nothing", fd.CloseAll(v, g, 0), api.OK)
	if len(v.Writes()) != 0 {
		t.Errorf("put is %v", v.Writes())
	}
	for k := range 4 {
		open(t, v, 0, 2, k, api.OK)
	}
	open(t, v, 1, 2, 0, api.OK)
	is(t, "Close", fd.Close(v, g, 0, 1), api.OK)
	v = view.New(v.Flat())
	is(t, "CloseAll", fd.CloseAll(v, g, 0), api.OK)
	for k := range uint64(4) {
		get(t, v, 0, k, fd.Desc{}, api.ErrFd)
	}
	get(t, v, 1, 0, fd.Desc{Inode: 2}, api.OK)
	if opens(v, 2) != 1 {
		t.Errorf("opens: %d", opens(v, 2))
	}
	v.Drop()
	raw(v, 0, 2, 99, 0)
	is(t, "CloseAll", fd.CloseAll(v, g, 0), api.ErrBytes)
	get(t, v, 0, 0, fd.Desc{}, api.ErrFd)
	get(t, v, 0, 3, fd.Desc{Inode: 2}, api.OK)
}

// P19.2, P19.3: a view that takes no more.
func TestMany(t *testing.T) {
	full := func(v *view.View, left int) *view.View {
		v = view.New(v.Flat())
		for i := range api.MaxWrites - left {
			v.Put(layout.AreaAt(g, 0)+i, 0)
		}
		return v
	}
	v := fresh(t)
	last := v
	last.Put(layout.InodeAt(g, 2)+inode.Opens, 0)
	for i := range api.MaxWrites - 1 {
		last.Put(layout.AreaAt(g, 0)+i, 0)
	}
	open(t, last, 0, 2, 0, api.ErrMany) // the opens alone might be put
	v = fresh(t)
	open(t, full(v, 0), 0, 2, 0, api.ErrMany)
	open(t, full(v, 1), 0, 2, 0, api.ErrMany)
	open(t, full(v, 2), 0, 2, 0, api.OK)
	open(t, v, 0, 2, 0, api.OK)
	is(t, "Seek", fd.Seek(full(v, 0), g, 0, 0, 5), api.ErrMany)
	for left, want := range []api.Errno{api.ErrMany, api.ErrMany, api.OK} {
		is(t, "Close", fd.Close(full(v, left), g, 0, 0), want)
		is(t, "CloseAll", fd.CloseAll(full(v, left), g, 0), want)
	}
}

// P19.4: opens are how many descriptors lead to an inode; a file without names stays till the last one is closed, and then all is free.
func TestWhateverIsOpened(t *testing.T) {
	seed := uint64(2)
	next := func(n int) int {
		seed = seed*6364136223846793005 + 1442695040888963407
		return int((seed >> 33) % uint64(n))
	}
	for range 60 {
		v := fresh(t)
		is(t, "Write", data.Write(v, g, 2, 60, "abcdefgh"), api.OK)
		words := v.Flat()
		leads, named := map[[2]int]int{}, map[int]bool{2: true, 4: true}
		for range 40 {
			v := view.New(words)
			i, k := next(4), next(4)
			switch next(6) {
			case 0, 1:
				n := 2 + 2*next(2)
				got, e := fd.Open(v, g, i, n)
				want := 0
				for leads[[2]int{i, want}] != 0 {
					want++
				}
				if named[n] && want < 4 && (e != api.OK || got != want) {
					t.Fatalf("Open: %d, %d, not %d", got, e, want)
				}
				if e == api.OK {
					leads[[2]int{i, got}] = n
				}
			case 2, 3:
				if e := fd.Close(v, g, i, uint64(k)); (e == api.OK) != (leads[[2]int{i, k}] != 0) {
					t.Fatal("Close: ", e)
				}
				delete(leads, [2]int{i, k})
			case 4:
				if next(4) == 0 {
					is(t, "CloseAll", fd.CloseAll(v, g, i), api.OK)
					for k := range 4 {
						delete(leads, [2]int{i, k})
					}
				}
			case 5:
				n := 2 + 2*next(2)
				if named[n] && next(8) == 0 {
					is(t, "Unlink", name.Unlink(v, g, map[int]string{2: "/f", 4: "/h"}[n]), api.OK)
					delete(named, n)
				}
			}
			view.Apply(words, v.Writes())
			settled(t, view.New(words), leads, named)
		}
	}
}

// settled holds opens, and what is there, against descriptors and names.
func settled(t *testing.T, v *view.View, leads map[[2]int]int, named map[int]bool) {
	t.Helper()
	many := map[int]uint64{}
	for _, n := range leads {
		many[n]++
	}
	there := 2 // the directories
	for _, n := range []int{2, 4} {
		x, e := inode.Get(v, g, n)
		if (e == api.OK) != (named[n] || many[n] > 0) || x.Opens != many[n] {
			t.Fatalf("inode %d: %v, %d; %d lead to it", n, x, e, many[n])
		}
		if e == api.OK {
			there++
		}
	}
	if s, e := data.Read(v, g, 2, 60, 8); (named[2] || many[2] > 0) && (s != "abcdefgh" || e != api.OK) {
		t.Fatalf("the bytes: %q, %d", s, e)
	}
	a, _ := alloc.New(v, g)
	if inodes, _ := a.Free(); inodes != 9-1-there {
		t.Fatalf("%d inodes are free", inodes)
	}
}

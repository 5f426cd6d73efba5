package data_test

import (
	"math"
	"slices"
	"strings"
	"testing"

	"grommet/alloc"
	"grommet/api"
	"grommet/blocks"
	"grommet/data"
	"grommet/inode"
	"grommet/layout"
	"grommet/view"
)

var g = layout.Geometry{Workers: 1, Inodes: 4, Blocks: 30}

// fresh: a view of a new device of so many blocks, whose inodes 2 and 3 are files.
func fresh(t *testing.T, many int) (*view.View, layout.Geometry) {
	t.Helper()
	h := layout.Geometry{Workers: 1, Inodes: 4, Blocks: many}
	v := view.New(layout.Format(h))
	for n := 2; n < 4; n++ {
		if e := inode.Put(v, h, n, inode.Node{Kind: api.IsFile, Links: 1}); e != api.OK {
			t.Fatal(e)
		}
	}
	return view.New(v.Flat()), h
}

// read holds what Read of the inode 2 tells against what it must.
func read(t *testing.T, v *view.View, g layout.Geometry, at, size uint64, want string) {
	t.Helper()
	if s, e := data.Read(v, g, 2, at, size); s != want || e != api.OK {
		t.Errorf("Read %d, %d: %q, %d, not %q", at, size, s, e, want)
	}
}

// write ends the test, unless bytes may be written to the inode 2.
func write(t *testing.T, v *view.View, g layout.Geometry, at uint64, s string) {
	t.Helper()
	if e := data.Write(v, g, 2, at, s); e != api.OK {
		t.Fatalf("Write %d, %.9q: %d", at, s, e)
	}
}

func resize(t *testing.T, v *view.View, g layout.Geometry, size uint64) {
	t.Helper()
	if e := data.Resize(v, g, 2, size); e != api.OK {
		t.Fatalf("Resize %d: %d", size, e)
	}
}

// free: how many blocks are.
func free(v *view.View, g layout.Geometry) int {
	a, _ := alloc.New(v, g)
	_, n := a.Free()
	return n
}

// sizeOf the inode 2.
func sizeOf(v *view.View, g layout.Geometry) uint64 {
	x, _ := inode.Get(v, g, 2)
	return x.Size
}

// P14.1 to P14.3: the chapter's example.
func TestExample(t *testing.T) {
	v, h := fresh(t, 9)
	if data.Need(v, h, 2, 62, 4) != 2 {
		t.Errorf("Need: %d", data.Need(v, h, 2, 62, 4))
	}
	write(t, v, h, 62, "abcd")
	if free(v, h) != 6 || sizeOf(v, h) != 66 {
		t.Errorf("%d are free, %d bytes", free(v, h), sizeOf(v, h))
	}
	read(t, v, h, 60, 9, "\x00\x00abcd")
	resize(t, v, h, 63)
	read(t, v, h, 60, 9, "\x00\x00a")
	resize(t, v, h, 66)
	read(t, v, h, 60, 9, "\x00\x00a\x00\x00\x00")
	if n := data.Need(v, h, 2, 300, 1); n != 2 {
		t.Errorf("Need: %d", n)
	}
}

// refused holds all calls' errors against one.
func refused(t *testing.T, what string, v *view.View, g layout.Geometry, n int, want api.Errno) {
	t.Helper()
	s, e := data.Read(v, g, n, 0, 5)
	if s != "" || e != want || data.Write(v, g, n, 0, "abc") != want || data.Write(v, g, n, 0, "") != want || data.Resize(v, g, n, 7) != want || data.Need(v, g, n, 0, 3) != 0 {
		t.Errorf("%s: %q, %d, %d, not %d", what, s, e, data.Write(v, g, n, 0, "abc"), want)
	}
	if len(v.Writes()) != 0 {
		t.Errorf("%s: put is %v", what, v.Writes())
	}
}

// P14.1 to P14.3: errors of the inode, and of a directory.
func TestRefused(t *testing.T) {
	v, _ := fresh(t, 30)
	words := v.Flat()
	refused(t, "no view", nil, layout.Geometry{}, 9, api.ErrNil)
	refused(t, "no geometry", view.New(words), layout.Geometry{}, 2, api.ErrArg)
	refused(t, "inode 0", view.New(words), g, 0, api.ErrArg)
	refused(t, "inode 4", view.New(nil), g, 4, api.ErrArg)
	refused(t, "a word too few", view.New(words[:len(words)-1]), g, 2, api.ErrRange)
	refused(t, "a directory", view.New(words), g, 1, api.ErrIsDir)
	words[layout.InodeAt(g, 2)] = 3
	refused(t, "no inode", view.New(words), g, 2, api.ErrBytes)
}

// P14.2, P14.3: ErrRange, at its edges; ErrIsDir and ErrBytes go ahead.
func TestRange(t *testing.T) {
	long := strings.Repeat("x", 768)
	for _, c := range []struct {
		at   uint64
		s    string
		want api.Errno
	}{
		{0, long, api.ErrMany}, {0, long + "x", api.ErrRange}, {640, long[:128], api.OK}, {640, long[:129], api.ErrRange}, {768, "", api.OK}, {769, "", api.ErrRange}, {767, "x", api.OK}, {767, "xx", api.ErrRange}, {768, "x", api.ErrRange},
		{math.MaxUint64, "", api.ErrRange}, {math.MaxUint64, "x", api.ErrRange}, {math.MaxUint64 - 5, long, api.ErrRange}, {1 << 63, "x", api.ErrRange},
	} {
		v, h := fresh(t, 30)
		if n := data.Need(v, h, 2, c.at, len(c.s)); c.want == api.ErrRange && n != 0 {
			t.Errorf("Need %d, %d: %d", c.at, len(c.s), n)
		}
		if e := data.Write(v, h, 2, c.at, c.s); e != c.want {
			t.Errorf("Write %d, %d bytes: %d, not %d", c.at, len(c.s), e, c.want)
		}
		if (c.want == api.ErrRange || c.s == "") && len(v.Writes()) != 0 {
			t.Errorf("Write %d, %d bytes: something is put", c.at, len(c.s))
		}
		if e := data.Write(v, h, 1, c.at, c.s); e != api.ErrIsDir {
			t.Errorf("Write of a directory: %d", e)
		}
	}
	v, h := fresh(t, 30)
	for _, size := range []uint64{769, math.MaxUint64} {
		if data.Resize(v, h, 2, size) != api.ErrRange || data.Resize(v, h, 1, size) != api.ErrIsDir {
			t.Errorf("Resize %d", size)
		}
	}
	resize(t, v, h, 768)
	if free(v, h) != 29 || sizeOf(v, h) != 768 {
		t.Error("what is resized alone takes blocks")
	}
	read(t, v, h, 760, 100, strings.Repeat("\x00", 8))
}

// P14.1: Read, around the end.
func TestReadEnd(t *testing.T) {
	v, h := fresh(t, 30)
	read(t, v, h, 0, 5, "")
	write(t, v, h, 0, "abcdef")
	for _, c := range []struct {
		at, size uint64
		want     string
	}{
		{0, 6, "abcdef"}, {0, 7, "abcdef"}, {0, math.MaxUint64, "abcdef"}, {5, 1, "f"}, {5, 2, "f"}, {5, math.MaxUint64, "f"}, {6, 1, ""}, {7, 1, ""}, {2, 0, ""}, {2, 3, "cde"},
		{math.MaxUint64, math.MaxUint64, ""}, {math.MaxUint64, 1, ""}, {1 << 63, 5, ""},
	} {
		read(t, v, h, c.at, c.size, c.want)
	}
	if s, e := data.Read(v, h, 3, 0, 5); s != "" || e != api.OK {
		t.Errorf("another file: %q, %d", s, e)
	}
}

// P14.1: bytes stand in words, the lowest one first; places without a block are 0.
func TestWhereBytesStand(t *testing.T) {
	v, h := fresh(t, 30)
	node := layout.InodeAt(h, 2)
	v.Put(node+3, 768)
	v.Put(node+5, 7)
	v.Put(layout.BlockAt(h, 7)+1, 0x4847464544434241)
	v.Put(node+8, 9)
	v.Put(layout.BlockAt(h, 9)+7, 8)
	v.Put(layout.BlockAt(h, 8)+7, 0x5a00000000000000)
	read(t, v, h, 70, 10, "\x00\x00ABCDEFGH")
	read(t, v, h, 767, 1, "Z")
	read(t, v, h, 0, 64, strings.Repeat("\x00", 64))
	read(t, v, h, 127, 10, strings.Repeat("\x00", 10))
}

// P14.1, P14.2: blocks that say nothing are told of places that have one of the bytes alone.
func TestSpoiltBlock(t *testing.T) {
	v, h := fresh(t, 30)
	for at := uint64(0); at < 768; at += 128 {
		write(t, v, h, at, strings.Repeat("x", 128))
		v = view.New(v.Flat())
	}
	x, _ := inode.Get(v, h, 2)
	v.Put(layout.BlockAt(h, int(x.Chain))+1, 30) // the place 5
	v = view.New(v.Flat())
	read(t, v, h, 310, 10, strings.Repeat("x", 10))
	read(t, v, h, 384, 10, strings.Repeat("x", 10))
	for _, at := range []uint64{256, 319, 320, 383} {
		if s, e := data.Read(v, h, 2, at, 65); s != "" || e != api.ErrBytes {
			t.Errorf("Read %d: %q, %d", at, s, e)
		}
	}
	if e := data.Write(v, h, 2, 250, strings.Repeat("y", 71)); e != api.ErrBytes || len(v.Writes()) != 0 || data.Need(v, h, 2, 250, 71) != 0 {
		t.Errorf("Write: %d, %v", e, v.Writes())
	}
	if e := data.Resize(v, h, 2, 380); e != api.ErrBytes {
		t.Errorf("Resize to within it: %d", e)
	}
	if e := data.Resize(v, h, 2, 300); e != api.ErrBytes {
		t.Errorf("Resize ahead of it: %d", e)
	}
	write(t, v, h, 250, strings.Repeat("y", 70))
	// Of places that lack a block, and then one that says nothing, no need is told.
	v.Put(layout.InodeAt(h, 2)+inode.First+3, 0)
	if n := data.Need(v, h, 2, 250, 200); n != 0 {
		t.Errorf("Need: %d", n)
	}
}

// P14.2: the block 0, as a spoilt map may tell it, has no bytes set.
func TestBlockNought(t *testing.T) {
	v, h := fresh(t, 30)
	v.Put(layout.BlockMapAt(h), 0)
	if e := data.Write(v, h, 2, 0, "abc"); e != api.ErrBytes || v.Get(layout.BlockAt(h, 0)) != 0 || sizeOf(v, h) != 0 {
		t.Errorf("%d", e)
	}
}

// P14.1: Need, by hand.
func TestNeed(t *testing.T) {
	v, h := fresh(t, 30)
	need := func(at uint64, many, want int) {
		t.Helper()
		if n := data.Need(v, h, 2, at, many); n != want {
			t.Errorf("Need %d, %d: %d, not %d", at, many, n, want)
		}
	}
	need(0, 0, 0)
	need(0, -1, 0)
	need(5, math.MinInt, 0)
	need(0, math.MaxInt, 0)
	need(math.MaxUint64, 1, 0)
	need(math.MaxUint64, math.MinInt, 0)
	need(0, 1, 1)
	need(63, 2, 2)
	need(0, 256, 4)
	need(0, 257, 6)
	need(0, 768, 13)
	need(0, 769, 0)
	need(767, 1, 2)
	need(300, 200, 5)
	write(t, v, h, 130, "x")
	write(t, v, h, 400, "x")
	need(0, 768, 10)
	need(128, 64, 0)
	need(127, 66, 2)
	need(400, 1, 0)
	need(300, 1, 1)
	if data.Need(nil, h, 2, 0, 5) != 0 || data.Need(v, h, 1, 0, 5) != 0 || data.Need(v, h, 0, 0, 5) != 0 {
		t.Error("Need of what may not be written")
	}
}

// P14.2: what Write puts, and in which order: block by block, word by word; Size behind all.
func TestWhatWritePuts(t *testing.T) {
	v, h := fresh(t, 30)
	write(t, v, h, 0, strings.Repeat("a", 128))
	v = view.New(v.Flat())
	write(t, v, h, 62, "abXYZ")
	first, second := layout.BlockAt(h, 1), layout.BlockAt(h, 2)
	if l, want := v.Writes(), []api.Write{{At: first + 7, Value: 0x6261616161616161}, {At: second, Value: 0x61616161615a5958}}; !slices.Equal(l, want) {
		t.Errorf("within: %x, not %x", l, want)
	}
	v = view.New(v.Flat())
	write(t, v, h, 62, "abXYZ")
	if l := v.Writes(); len(l) != 0 {
		t.Errorf("again: %v", l)
	}
	write(t, v, h, 127, "ab")
	l := v.Writes()
	// The last byte of the block 2 is an a already: no word of it is put.
	want := []api.Write{{At: layout.BlockMapAt(h), Value: 15}}
	for i := range 8 {
		want = append(want, api.Write{At: layout.BlockAt(h, 3) + i})
	}
	want[1].Value = 'b'
	want = append(want, api.Write{At: layout.InodeAt(h, 2) + 6, Value: 3}, api.Write{At: layout.InodeAt(h, 2) + 3, Value: 129})
	if !slices.Equal(l, want) {
		t.Errorf("behind: %v, not %v", l, want)
	}
}

// P14.2: want of room turns nothing; just enough is enough.
func TestSpace(t *testing.T) {
	v, h := fresh(t, 4)
	for _, c := range []struct {
		at   uint64
		many int
	}{{0, 193}, {0, 256}, {256, 129}, {192, 129}} {
		if e := data.Write(v, h, 2, c.at, strings.Repeat("x", c.many)); e != api.ErrSpace || len(v.Writes()) != 0 {
			t.Errorf("Write %d, %d: %d", c.at, c.many, e)
		}
	}
	if e := data.Write(v, h, 2, 0, strings.Repeat("x", 769)); e != api.ErrRange {
		t.Errorf("ErrRange goes ahead: %d", e)
	}
	write(t, v, h, 256, strings.Repeat("x", 128))
	if free(v, h) != 0 {
		t.Error("something is free")
	}
	write(t, v, h, 300, "y")
	if e := data.Write(v, h, 2, 0, "x"); e != api.ErrSpace {
		t.Errorf("a block more: %d", e)
	}
}

// P14.2, P14.3: a view that takes no more: what was put ahead stays, Size is behind all.
func TestMany(t *testing.T) {
	v, h := fresh(t, 30)
	write(t, v, h, 0, strings.Repeat("x", 100))
	words := v.Flat()
	full := func(left int) *view.View {
		v := view.New(words)
		for i := range api.MaxWrites - left {
			v.Put(layout.AreaAt(h, 0)+i, 0)
		}
		return v
	}
	for left := range 5 {
		v, want := full(left), api.ErrMany
		if left == 4 {
			want = api.OK
		}
		if e := data.Write(v, h, 2, 94, "12345678901"); e != want {
			t.Errorf("%d words left: Write: %d", left, e)
		}
		size := uint64(100)
		if left == 4 {
			size = 105
		}
		if sizeOf(v, h) != size {
			t.Errorf("%d words left: %d bytes", left, sizeOf(v, h))
		}
	}
	for left, want := range []api.Errno{api.ErrMany, api.ErrMany, api.ErrMany, api.OK} {
		v := full(left)
		if e := data.Resize(v, h, 2, 64); e != want {
			t.Errorf("%d words left: Resize: %d", left, e)
		}
	}
	if e := data.Write(full(0), h, 2, 10, "yyyy"); e != api.ErrMany {
		t.Errorf("within the file: %d", e)
	}
	if e := data.Resize(full(0), h, 2, 90); e != api.ErrMany {
		t.Errorf("within a block: %d", e)
	}
	if e := data.Resize(full(0), h, 2, 100); e != api.OK {
		t.Errorf("to what it is: %d", e)
	}
}

// P14.3: Resize puts what it must, in order, and gives back the blocks behind.
func TestResize(t *testing.T) {
	v, h := fresh(t, 30)
	write(t, v, h, 0, strings.Repeat("x", 200))
	v = view.New(v.Flat())
	resize(t, v, h, 75)
	node, want := layout.InodeAt(h, 2), []api.Write{}
	bits := layout.BlockMapAt(h)
	want = append(want, api.Write{At: bits, Value: 7}, api.Write{At: node + 6}, api.Write{At: node + 7}, api.Write{At: layout.BlockAt(h, 2) + 1, Value: 0x787878})
	for i := 2; i < 8; i++ {
		want = append(want, api.Write{At: layout.BlockAt(h, 2) + i})
	}
	want = append(want, api.Write{At: node + 3, Value: 75})
	if l := v.Writes(); !slices.Equal(l, want) {
		t.Errorf("to less: %v, not %v", l, want)
	}
	resize(t, v, h, 64)
	if m, _ := blocks.Of(v, h, 2); !slices.Equal(m.List(), []int{1}) {
		t.Errorf("to a multiple of 64: %v", m.List())
	}
	resize(t, v, h, 400)
	read(t, v, h, 60, 30, "xxxx"+strings.Repeat("\x00", 26))
	if free(v, h) != 28 {
		t.Errorf("to more: %d are free", free(v, h))
	}
	resize(t, v, h, 0)
	if free(v, h) != 29 || sizeOf(v, h) != 0 {
		t.Errorf("to nothing: %d are free", free(v, h))
	}
	write(t, v, h, 70, "y")
	for i := range 8 {
		v.Put(layout.BlockAt(h, 0)+i, math.MaxUint64) // no place's block
	}
	resize(t, v, h, 30)
	if v.Get(layout.BlockAt(h, 0)+7) != math.MaxUint64 {
		t.Error("words of the block 0 are turned")
	}
	read(t, v, h, 0, 99, strings.Repeat("\x00", 30))
	if free(v, h) != 29 {
		t.Error("a place without a block takes one")
	}
}

// P14.3: what could not be given back is told, and Size stays.
func TestResizeSpoilt(t *testing.T) {
	v, h := fresh(t, 30)
	write(t, v, h, 0, strings.Repeat("x", 200))
	v.Put(layout.BlockMapAt(h), 1)
	if e := data.Resize(v, h, 2, 70); e != api.ErrState || sizeOf(v, h) != 200 {
		t.Errorf("%d, %d bytes", e, sizeOf(v, h))
	}
}

// P14.4: a file's bytes are what was written, 0 elsewhere, whatever was written and resized.
func TestWhateverIsWritten(t *testing.T) {
	seed := uint64(21)
	next := func(n int) int {
		seed = seed*6364136223846793005 + 1442695040888963407
		return int((seed >> 33) % uint64(n))
	}
	v, h := fresh(t, 16)
	words := v.Flat()
	var model [4][]byte
	for step := range 4000 {
		v := view.New(words)
		n, at := 2+next(2), next(780)
		before := free(v, h)
		if next(3) > 0 {
			s := strings.Repeat(string(rune('a'+step%26)), next(60))
			need := data.Need(v, h, n, uint64(at), len(s))
			e := data.Write(v, h, n, uint64(at), s)
			switch {
			case at+len(s) > 768 && (s != "" || at > 768):
				if e != api.ErrRange {
					t.Fatalf("too far: %d", e)
				}
			case need > before:
				if e != api.ErrSpace || len(v.Writes()) != 0 {
					t.Fatalf("want of room: %d", e)
				}
			case e != api.OK || free(v, h) != before-need:
				t.Fatalf("Write: %d; %d were free, %d are", e, before, free(v, h))
			case s != "":
				model[n] = append(model[n], make([]byte, max(0, at+len(s)-len(model[n])))...)
				copy(model[n][at:], s)
			}
		} else if size := next(769); next(2) == 0 {
			if e := data.Resize(v, h, n, uint64(size)); e != api.OK {
				t.Fatal("Resize: ", e)
			}
			model[n] = append(model[n], make([]byte, 768)...)[:size:size]
		}
		for n := 2; n < 4; n++ {
			at, size := next(100), next(800)
			want := model[n][min(at, len(model[n])):min(at+size, len(model[n]))]
			if s, e := data.Read(v, h, n, uint64(at), uint64(size)); s != string(want) || e != api.OK {
				t.Fatalf("step %d: Read %d, %d: %q, not %q", step, at, size, s, want)
			}
		}
		view.Apply(words, v.Writes())
	}
}

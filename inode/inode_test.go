package inode_test

import (
	"math"
	"slices"
	"testing"

	"grommet/api"
	"grommet/inode"
	"grommet/layout"
	"grommet/view"
)

var g = layout.Geometry{Workers: 1, Inodes: 3, Blocks: 4}

// fresh: a view of a new device.
func fresh() *view.View {
	return view.New(layout.Format(g))
}

// most: a file, and a directory, all of whose numbers are as great as they may be.
func most() []inode.Node {
	return []inode.Node{
		{Kind: api.IsFile, Links: 65536, Opens: 16, Size: 768, Direct: [4]uint64{3, 3, 3, 3}, Chain: 3},
		{Kind: api.IsDir, Links: 65536, Opens: 16, Direct: [4]uint64{3, 3, 3, 3}, Chain: 3, Parent: 2},
	}
}

// wrong: nodes that are not right, each by one thing.
func wrong() map[string]inode.Node {
	l := map[string]inode.Node{"nothing": {}}
	turn := func(what string, base inode.Node, do func(*inode.Node)) {
		do(&base)
		l[what] = base
	}
	file, dir := most()[0], most()[1]
	turn("kind 0", file, func(x *inode.Node) { x.Kind = 0 })
	turn("kind 3", file, func(x *inode.Node) { x.Kind = 3 })
	turn("a great kind", file, func(x *inode.Node) { x.Kind = 1<<63 + 1 })
	turn("links", file, func(x *inode.Node) { x.Links++ })
	turn("many links", dir, func(x *inode.Node) { x.Links = math.MaxUint64 })
	turn("opens", file, func(x *inode.Node) { x.Opens++ })
	turn("opens of a directory", dir, func(x *inode.Node) { x.Opens = 1 << 63 })
	turn("size", file, func(x *inode.Node) { x.Size++ })
	turn("great size", file, func(x *inode.Node) { x.Size = math.MaxUint64 })
	turn("size of a directory", dir, func(x *inode.Node) { x.Size = 1 })
	turn("chain", file, func(x *inode.Node) { x.Chain++ })
	turn("great chain", dir, func(x *inode.Node) { x.Chain = math.MaxUint64 })
	turn("parent of a file", file, func(x *inode.Node) { x.Parent = 1 })
	turn("parent", dir, func(x *inode.Node) { x.Parent++ })
	turn("great parent", dir, func(x *inode.Node) { x.Parent = math.MaxUint64 })
	for i := range 4 {
		turn("direct "+string(rune('0'+i)), file, func(x *inode.Node) { x.Direct[i]++ })
		turn("great direct "+string(rune('0'+i)), dir, func(x *inode.Node) { x.Direct[i] = 1 << 63 })
	}
	return l
}

// P12.1: Right.
func TestRight(t *testing.T) {
	for _, x := range append(most(), inode.Node{Kind: api.IsFile}, inode.Node{Kind: api.IsDir}) {
		if !inode.Right(g, x) {
			t.Errorf("%v is not right", x)
		}
		if inode.Right(layout.Geometry{}, x) || inode.Right(layout.Geometry{Workers: 5, Inodes: 3, Blocks: 4}, x) {
			t.Errorf("%v is right in a geometry that may not be", x)
		}
	}
	for what, x := range wrong() {
		if inode.Right(g, x) {
			t.Errorf("%s: right", what)
		}
	}
	if inode.Right(layout.Geometry{Workers: 1, Inodes: 2, Blocks: 4}, most()[1]) || inode.Right(layout.Geometry{Workers: 1, Inodes: 3, Blocks: 3}, most()[0]) {
		t.Error("right in a lesser geometry")
	}
}

// raw puts the words of a node as the chapter lists them, right or not.
func raw(v *view.View, n int, x inode.Node) {
	at := layout.InodeAt(g, n)
	for i, w := range []uint64{x.Kind, x.Links, x.Opens, x.Size, x.Direct[0], x.Direct[1], x.Direct[2], x.Direct[3], x.Chain, x.Parent} {
		v.Put(at+i, w)
	}
}

// P12.1: Get.
func TestGet(t *testing.T) {
	v := fresh()
	if x, e := inode.Get(v, g, 1); x != (inode.Node{Kind: api.IsDir, Links: 1}) || e != api.OK {
		t.Errorf("the first one: %v, %d", x, e)
	}
	if x, e := inode.Get(v, g, 2); x != (inode.Node{}) || e != api.ErrBytes {
		t.Errorf("one that is not there: %v, %d", x, e)
	}
	for _, want := range most() {
		want.Direct = [4]uint64{0, 1, 2, 3}
		want.Links, want.Opens = 5, 6
		raw(v, 2, want)
		for i := range 6 {
			v.Put(layout.InodeAt(g, 2)+10+i, math.MaxUint64)
		}
		if x, e := inode.Get(v, g, 2); x != want || e != api.OK {
			t.Errorf("%v: %v, %d", want, x, e)
		}
	}
	for what, x := range wrong() {
		raw(v, 2, x)
		if x, e := inode.Get(v, g, 2); x != (inode.Node{}) || e != api.ErrBytes {
			t.Errorf("%s: %v, %d", what, x, e)
		}
	}
}

// P12.1, P12.2: errors, in their order.
func TestRefused(t *testing.T) {
	file := inode.Node{Kind: api.IsFile, Links: 1}
	whole := layout.Format(g)
	for _, c := range []struct {
		what string
		v    *view.View
		g    layout.Geometry
		n    int
		want api.Errno
	}{
		{"no view", nil, layout.Geometry{}, -1, api.ErrNil},
		{"no such geometry", fresh(), layout.Geometry{Workers: 1, Inodes: 65, Blocks: 4}, 1, api.ErrArg},
		{"no words", view.New(nil), g, 1, api.ErrRange},
		{"a word too few", view.New(whole[:len(whole)-1]), g, 1, api.ErrRange},
		{"inode 0", fresh(), g, 0, api.ErrArg}, {"inode 3", fresh(), g, 3, api.ErrArg}, {"inode -1", fresh(), g, -1, api.ErrArg},
		{"the least", fresh(), g, math.MinInt, api.ErrArg}, {"the greatest", view.New(nil), g, math.MaxInt, api.ErrArg},
	} {
		if x, e := inode.Get(c.v, c.g, c.n); e != c.want || x != (inode.Node{}) {
			t.Errorf("%s: Get: %v, %d", c.what, x, e)
		}
		if e := inode.Put(c.v, c.g, c.n, file); e != c.want {
			t.Errorf("%s: Put: %d", c.what, e)
		}
		if e := inode.Wipe(c.v, c.g, c.n); e != c.want {
			t.Errorf("%s: Wipe: %d", c.what, e)
		}
		if len(c.v.Writes()) != 0 {
			t.Errorf("%s: something is put", c.what)
		}
	}
	for what, x := range wrong() {
		v := fresh()
		if e := inode.Put(v, g, 2, x); e != api.ErrArg || len(v.Writes()) != 0 {
			t.Errorf("%s: Put: %d", what, e)
		}
		if e := inode.Put(view.New(nil), g, 2, x); e != api.ErrArg {
			t.Errorf("%s, no words: Put: %d", what, e)
		}
	}
}

// P12.2: what Put puts, and in which order.
func TestPut(t *testing.T) {
	v, at := fresh(), layout.InodeAt(g, 2)
	if e := inode.Put(v, g, 2, inode.Node{Kind: api.IsFile, Links: 1}); e != api.OK {
		t.Error(e)
	}
	if l := v.Writes(); !slices.Equal(l, []api.Write{{At: at, Value: 1}, {At: at + 1, Value: 1}}) {
		t.Errorf("a file: %v", l)
	}
	v = view.New(v.Flat())
	if e := inode.Put(v, g, 2, inode.Node{Kind: api.IsDir, Links: 2, Opens: 3, Direct: [4]uint64{1, 2, 3, 1}, Chain: 2, Parent: 1}); e != api.OK {
		t.Error(e)
	}
	var want []api.Write
	for i, w := range []uint64{2, 2, 3, 0, 1, 2, 3, 1, 2, 1} {
		if i != inode.Size {
			want = append(want, api.Write{At: at + i, Value: w})
		}
	}
	if l := v.Writes(); !slices.Equal(l, want) {
		t.Errorf("a directory: %v", l)
	}
	if inode.Links != 1 || inode.Opens != 2 || inode.Size != 3 || inode.First != 4 || inode.Chain != 8 || inode.Parent != 9 || inode.Used != 10 {
		t.Error("the words have other numbers")
	}
}

// P12.2: Wipe, of what is right and what is not; the other words stay.
func TestWipe(t *testing.T) {
	words, at := layout.Format(g), layout.InodeAt(g, 2)
	for i := range 16 {
		words[at+i] = 1 << 60
	}
	words[at+4] = 0
	v := view.New(words)
	if e := inode.Wipe(v, g, 2); e != api.OK {
		t.Error(e)
	}
	var want []api.Write
	for _, i := range []int{0, 1, 2, 3, 5, 6, 7, 8, 9} {
		want = append(want, api.Write{At: at + i})
	}
	if l := v.Writes(); !slices.Equal(l, want) {
		t.Errorf("%v", l)
	}
	if x, e := inode.Get(v, g, 2); x != (inode.Node{}) || e != api.ErrBytes {
		t.Errorf("behind it: %v, %d", x, e)
	}
	v = view.New(v.Flat())
	if e := inode.Wipe(v, g, 2); e != api.OK || len(v.Writes()) != 0 {
		t.Errorf("again: %v, %d", v.Writes(), e)
	}
}

// P12.2: the first error ends it.
func TestMany(t *testing.T) {
	at := layout.InodeAt(g, 2)
	x := inode.Node{Kind: 2, Links: 2, Opens: 3, Direct: [4]uint64{1, 2, 3, 1}, Chain: 2, Parent: 1}
	for left := range 10 {
		v := fresh()
		for i := range api.MaxWrites - left {
			v.Put(100+i, 0)
		}
		want := api.ErrMany
		if left == 9 {
			want = api.OK
		}
		if e := inode.Put(v, g, 2, x); e != want {
			t.Errorf("%d words left: %d", left, e)
		}
		for n, i := range []int{0, 1, 2, 4, 5, 6, 7, 8, 9} {
			if (v.Get(at+i) != 0) != (n < left) {
				t.Errorf("%d words left: the word %d is %d", left, i, v.Get(at+i))
			}
		}
		if e := inode.Put(v, g, 1, inode.Node{Kind: api.IsDir, Links: 1}); e != api.OK {
			t.Errorf("what is so already: %d", e)
		}
	}
}

// P12.3: what was put is got; put again nothing is put; no word of another inode is turned.
func TestPutIsGot(t *testing.T) {
	for n := 1; n < 3; n++ {
		for _, x := range append(most(), inode.Node{Kind: api.IsFile}, inode.Node{Kind: api.IsDir, Direct: [4]uint64{0, 1, 0, 2}}) {
			v := fresh()
			if e := inode.Put(v, g, n, x); e != api.OK {
				t.Fatal(e)
			}
			if got, e := inode.Get(v, g, n); got != x || e != api.OK {
				t.Errorf("%v: %v, %d", x, got, e)
			}
			for _, w := range v.Writes() {
				if k, i, _, rest := layout.Where(g, w.At); k != layout.Inode || i != n || rest >= 10 {
					t.Errorf("%v: the word %d is put", x, w.At)
				}
			}
			v = view.New(v.Flat())
			if e := inode.Put(v, g, n, x); e != api.OK || len(v.Writes()) != 0 {
				t.Errorf("%v, again: %v, %d", x, v.Writes(), e)
			}
			if e := inode.Wipe(v, g, n); e != api.OK {
				t.Fatal(e)
			}
			if _, e := inode.Get(v, g, n); e != api.ErrBytes {
				t.Errorf("%v, wiped: %d", x, e)
			}
		}
	}
}

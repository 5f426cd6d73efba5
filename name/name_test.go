package name_test

import (
	"maps"
	"math"
	"slices"
	"strings"
	"testing"

	"grommet/alloc"
	"grommet/api"
	"grommet/blocks"
	"grommet/data"
	"grommet/entry"
	"grommet/inode"
	"grommet/layout"
	"grommet/name"
	"grommet/path"
	"grommet/view"
)

var g = layout.Geometry{Workers: 1, Inodes: 9, Blocks: 40}

// disk is a device's words, on which calls are done one behind the other.
type disk struct {
	t     *testing.T
	g     layout.Geometry
	words []uint64
}

func newDisk(t *testing.T, g layout.Geometry) *disk {
	return &disk{t: t, g: g, words: layout.Format(g)}
}

// do a call over a view; its writes are done, if it has no error.
func (d *disk) do(want api.Errno, call func(*view.View) api.Errno) {
	d.t.Helper()
	v := view.New(d.words)
	if e := call(v); e != want {
		d.t.Fatalf("%d, not %d", e, want)
	}
	if want == api.OK {
		view.Apply(d.words, v.Writes())
	}
}

// make holds what Make tells against what it must: an inode's number, and an error.
func (d *disk) make(s string, kind uint64, n int, want api.Errno) {
	d.t.Helper()
	d.do(want, func(v *view.View) api.Errno {
		got, e := name.Make(v, d.g, s, kind)
		if got != n {
			d.t.Fatalf("Make %q: %d, %d, not %d", s, got, e, n)
		}
		return e
	})
}

func (d *disk) link(s, to string, want api.Errno) {
	d.t.Helper()
	d.do(want, func(v *view.View) api.Errno { return name.Link(v, d.g, s, to) })
}

func (d *disk) unlink(s string, want api.Errno) {
	d.t.Helper()
	d.do(want, func(v *view.View) api.Errno { return name.Unlink(v, d.g, s) })
}

func (d *disk) rmdir(s string, want api.Errno) {
	d.t.Helper()
	d.do(want, func(v *view.View) api.Errno { return name.Rmdir(v, d.g, s) })
}

// node of an inode.
func (d *disk) node(n int) (inode.Node, api.Errno) {
	return inode.Get(view.New(d.words), d.g, n)
}

// leads holds where a path leads against what it must; 0: nowhere.
func (d *disk) leads(s string, want int) {
	d.t.Helper()
	if n, _ := path.Walk(view.New(d.words), d.g, s); n != want {
		d.t.Errorf("%q leads to %d, not %d", s, n, want)
	}
}

// free holds how many inodes and blocks are free.
func (d *disk) free(inodes, blocks int) {
	d.t.Helper()
	a, _ := alloc.New(view.New(d.words), d.g)
	if i, b := a.Free(); i != inodes || b != blocks {
		d.t.Errorf("free are %d, %d, not %d, %d", i, b, inodes, blocks)
	}
}

// P17.1 to P17.3: the chapter's example.
func TestExample(t *testing.T) {
	d := newDisk(t, g)
	d.make("/d", api.IsDir, 2, api.OK)
	d.make("/d/f", api.IsFile, 3, api.OK)
	d.link("/d/f", "/g", api.OK)
	d.rmdir("/d", api.ErrFilled)
	d.unlink("/d/f", api.OK)
	d.rmdir("/d", api.OK)
	d.make("/e", api.IsFile, 2, api.OK)
	d.unlink("/", api.ErrName)
	d.leads("/g", 3)
	d.leads("/e", 2)
	d.unlink("/g", api.OK)
	d.unlink("/e", api.OK)
	d.free(7, 39)
}

// P17.1: what Make makes.
func TestMake(t *testing.T) {
	d := newDisk(t, g)
	d.make("/d", api.IsDir, 2, api.OK)
	d.make("/d/e", api.IsDir, 3, api.OK)
	d.make("/d/f", api.IsFile, 4, api.OK)
	for n, want := range map[int]inode.Node{
		2: {Kind: api.IsDir, Links: 1, Parent: 1}, 3: {Kind: api.IsDir, Links: 1, Parent: 2}, 4: {Kind: api.IsFile, Links: 1},
	} {
		x, e := d.node(n)
		x.Direct, x.Chain = want.Direct, 0
		if x != want || e != api.OK {
			t.Errorf("inode %d: %v, %d", n, x, e)
		}
	}
	d.leads("/d/e", 3)
	d.leads("/d/f", 4)
	d.make("/d", api.IsFile, 0, api.ErrExist)
	d.make("/d/f", api.IsDir, 0, api.ErrExist)
	d.make("/d/f/x", api.IsFile, 0, api.ErrNoDir)
	d.make("/x/y", api.IsFile, 0, api.ErrNone)
	d.make("/", api.IsDir, 0, api.ErrName)
	d.make("x", api.IsFile, 0, api.ErrName)
	d.make("/"+strings.Repeat("x", 41), api.IsFile, 0, api.ErrName)
	for _, kind := range []uint64{0, 3, math.MaxUint64} {
		d.make("/n", kind, 0, api.ErrArg)
		d.make("", kind, 0, api.ErrArg)
	}
}

// P17.1: what Make puts, and in which order: the map of inodes, the node, the name.
func TestWhatMakePuts(t *testing.T) {
	v := view.New(layout.Format(g))
	if _, e := name.Make(v, g, "/d", api.IsDir); e != api.OK {
		t.Fatal(e)
	}
	at := layout.InodeAt(g, 2)
	l := v.Writes()
	want := []api.Write{{At: layout.InodeMapAt(g), Value: 7}, {At: at, Value: 2}, {At: at + 1, Value: 1}, {At: at + 9, Value: 1}}
	if len(l) < 5 || !slices.Equal(l[:4], want) || l[4].At != layout.BlockMapAt(g) {
		t.Errorf("%v", l)
	}
}

// P17.1: want of room, in its order.
func TestNoRoom(t *testing.T) {
	d := newDisk(t, layout.Geometry{Workers: 1, Inodes: 3, Blocks: 40})
	d.make("/a", api.IsDir, 2, api.OK)
	d.make("/b", api.IsFile, 0, api.ErrSpace)
	d.make("/a", api.IsFile, 0, api.ErrExist)
	d = newDisk(t, layout.Geometry{Workers: 1, Inodes: 9, Blocks: 2})
	d.make("/"+begins(0), api.IsFile, 2, api.OK)
	d.make("/"+begins(1), api.IsFile, 0, api.ErrSpace)
	d.link("/"+begins(0), "/"+begins(2), api.ErrSpace)
	d.free(6, 0)
	d = newDisk(t, layout.Geometry{Workers: 1, Inodes: 20, Blocks: 40})
	for i := range 12 {
		d.make("/"+string(rune('a'+i)), api.IsFile, 2+i, api.OK)
	}
	d.make("/m", api.IsFile, 0, api.ErrDir)
	d.link("/a", "/m", api.ErrDir)
}

// begins: a name that begins at a place.
func begins(at int) string {
	for i := 0; ; i++ {
		if s := strings.Repeat("z", 1+i/26) + string(rune('a'+i%26)); entry.Begin(s) == at {
			return s
		}
	}
}

// P17.2: Link.
func TestLink(t *testing.T) {
	d := newDisk(t, g)
	d.make("/d", api.IsDir, 2, api.OK)
	d.make("/f", api.IsFile, 3, api.OK)
	d.link("/f", "/d/g", api.OK)
	d.link("/d/g", "/h", api.OK)
	d.leads("/d/g", 3)
	d.leads("/h", 3)
	if x, _ := d.node(3); x.Links != 3 {
		t.Errorf("%d links", x.Links)
	}
	d.link("/x", "/", api.ErrNone)
	d.link("x", "/y", api.ErrName)
	d.link("/d", "/h", api.ErrIsDir)
	d.link("/", "/y", api.ErrIsDir)
	d.link("/f", "/", api.ErrName)
	d.link("/f", "/x/y", api.ErrNone)
	d.link("/f", "/h/y", api.ErrNoDir)
	d.link("/f", "/h", api.ErrExist)
	d.link("/f", "/f", api.ErrExist)
	d.link("/f/x", "/y", api.ErrNoDir)
	d.words[layout.InodeAt(g, 3)+inode.Links] = api.MaxLinks - 1
	d.link("/f", "/i", api.OK)
	d.link("/f", "/j", api.ErrLinks)
	d.link("/f", "/h", api.ErrExist)
}

// P17.1: a name that says nothing is told ahead of want of room.
func TestSpoiltAheadOfRoom(t *testing.T) {
	d := newDisk(t, layout.Geometry{Workers: 1, Inodes: 3, Blocks: 40})
	d.make("/f", api.IsFile, 2, api.OK)
	m, _ := blocks.Of(view.New(d.words), d.g, 1)
	d.words[layout.BlockAt(d.g, m.List()[0])] = 0
	d.make("/g", api.IsFile, 0, api.ErrBytes)
}

// P17.2: ErrLinks goes ahead of want of room.
func TestLinksAheadOfRoom(t *testing.T) {
	d := newDisk(t, layout.Geometry{Workers: 1, Inodes: 9, Blocks: 2})
	d.make("/"+begins(0), api.IsFile, 2, api.OK)
	d.words[layout.InodeAt(d.g, 2)+inode.Links] = api.MaxLinks
	d.link("/"+begins(0), "/"+begins(1), api.ErrLinks)
}

// P17.3, P17.5: Unlink; behind the last name inode and blocks are free, unless somebody has it open.
func TestUnlink(t *testing.T) {
	d := newDisk(t, g)
	d.make("/f", api.IsFile, 2, api.OK)
	d.link("/f", "/g", api.OK)
	d.do(api.OK, func(v *view.View) api.Errno { return data.Write(v, g, 2, 250, strings.Repeat("x", 100)) })
	d.unlink("/f", api.OK)
	d.leads("/f", 0)
	d.leads("/g", 2)
	if x, _ := d.node(2); x.Links != 1 {
		t.Errorf("%d links", x.Links)
	}
	d.unlink("/f", api.ErrNone)
	d.unlink("/g/x", api.ErrNoDir)
	d.unlink("", api.ErrName)
	d.unlink("/g", api.OK)
	d.free(7, 39)
	if _, e := d.node(2); e != api.ErrBytes {
		t.Errorf("the node is there: %d", e)
	}
	d.make("/d", api.IsDir, 2, api.OK)
	d.unlink("/d", api.ErrIsDir)
	d.make("/f", api.IsFile, 3, api.OK)
	d.words[layout.InodeAt(g, 3)+inode.Opens] = 1
	d.unlink("/f", api.OK)
	if x, e := d.node(3); x.Links != 0 || x.Opens != 1 || e != api.OK {
		t.Errorf("one that somebody has open: %v, %d", x, e)
	}
	d.do(api.OK, func(v *view.View) api.Errno { return name.Release(v, g, 3) })
	if _, e := d.node(3); e != api.OK {
		t.Errorf("released, it is away: %d", e)
	}
	d.words[layout.InodeAt(g, 3)+inode.Opens] = 0
	d.do(api.OK, func(v *view.View) api.Errno { return name.Release(v, g, 3) })
	if _, e := d.node(3); e != api.ErrBytes {
		t.Errorf("released, it is there: %d", e)
	}
}

// P17.3: Rmdir.
func TestRmdir(t *testing.T) {
	d := newDisk(t, g)
	d.make("/d", api.IsDir, 2, api.OK)
	d.make("/d/e", api.IsDir, 3, api.OK)
	d.make("/f", api.IsFile, 4, api.OK)
	d.rmdir("/f", api.ErrNoDir)
	d.rmdir("/d", api.ErrFilled)
	d.rmdir("/", api.ErrName)
	d.rmdir("/x", api.ErrNone)
	d.rmdir("/f/x", api.ErrNoDir)
	d.rmdir("/d/e", api.OK)
	d.leads("/d/e", 0)
	d.rmdir("/d", api.OK)
	d.unlink("/f", api.OK)
	d.free(7, 39)
}

// P17.3: a directory whose names say nothing is not taken away.
func TestRmdirSpoilt(t *testing.T) {
	d := newDisk(t, g)
	d.make("/d", api.IsDir, 2, api.OK)
	d.make("/d/e", api.IsFile, 3, api.OK)
	m, _ := blocks.Of(view.New(d.words), g, 2)
	d.words[layout.BlockAt(g, m.List()[0])] = 0
	d.rmdir("/d", api.ErrBytes)
}

// P17.4: Loosen and Release.
func TestLoosen(t *testing.T) {
	d := newDisk(t, g)
	d.make("/f", api.IsFile, 2, api.OK)
	at := layout.InodeAt(g, 2)
	d.words[at+inode.Links] = 2
	d.do(api.OK, func(v *view.View) api.Errno {
		e := name.Loosen(v, g, 2)
		if l := v.Writes(); !slices.Equal(l, []api.Write{{At: at + 1, Value: 1}}) {
			t.Errorf("put is %v", l)
		}
		return e
	})
	d.do(api.OK, func(v *view.View) api.Errno {
		e := name.Release(v, g, 2)
		if len(v.Writes()) != 0 {
			t.Errorf("put is %v", v.Writes())
		}
		return e
	})
	d.do(api.OK, func(v *view.View) api.Errno {
		e := name.Loosen(v, g, 2)
		if l := v.Writes(); !slices.Equal(l, []api.Write{{At: at + 1}, {At: at}, {At: layout.InodeMapAt(g), Value: 3}}) {
			t.Errorf("put is %v", l)
		}
		return e
	})
	d.words[at] = 1
	d.do(api.ErrBytes, func(v *view.View) api.Errno { return name.Loosen(v, g, 2) })
	d.do(api.ErrState, func(v *view.View) api.Errno { return name.Release(v, g, 2) }) // its bit is 0
	for _, n := range []int{math.MinInt, 0, 9, math.MaxInt} {
		d.do(api.ErrArg, func(v *view.View) api.Errno { return name.Loosen(v, g, n) })
		d.do(api.ErrArg, func(v *view.View) api.Errno { return name.Release(v, g, n) })
	}
	d.do(api.ErrBytes, func(v *view.View) api.Errno { return name.Loosen(v, g, 5) })
	d.do(api.ErrBytes, func(v *view.View) api.Errno { return name.Release(v, g, 5) })
}

// P17.1 to P17.4: errors of the view and the geometry, and a view that takes no more.
func TestRefused(t *testing.T) {
	all := func(what string, v *view.View, g layout.Geometry, s string, kind uint64, n int, want api.Errno) {
		t.Helper()
		got, e := name.Make(v, g, s, kind)
		for i, e := range []api.Errno{e, name.Link(v, g, s, s), name.Unlink(v, g, s), name.Rmdir(v, g, s), name.Loosen(v, g, n), name.Release(v, g, n)} {
			if e != want || got != 0 {
				t.Errorf("%s: call %d: %d, not %d", what, i, e, want)
			}
		}
	}
	all("no view", nil, layout.Geometry{}, "", 7, 0, api.ErrNil)
	all("no geometry", view.New(nil), layout.Geometry{}, "", api.IsDir, 1, api.ErrArg)
	all("no words", view.New(nil), g, "", api.IsDir, 1, api.ErrRange)
	v := view.New(layout.Format(g))
	for i := range api.MaxWrites - 5 {
		v.Put(layout.AreaAt(g, 0)+i, 0)
	}
	if n, e := name.Make(v, g, "/f", api.IsFile); n != 0 || e != api.ErrMany {
		t.Errorf("a view that takes no more: %d, %d", n, e)
	}
}

// P17.1: the inode 0, as a spoilt map may tell it, is made nothing of.
func TestMakeNought(t *testing.T) {
	d := newDisk(t, g)
	d.words[layout.InodeMapAt(g)] = 2
	d.make("/f", api.IsFile, 0, api.ErrArg)
}

// P17.5: links are as many as names, and when all is taken away all is free.
func TestWhateverIsMade(t *testing.T) {
	seed := uint64(8)
	next := func(n int) int {
		seed = seed*6364136223846793005 + 1442695040888963407
		return int((seed >> 33) % uint64(n))
	}
	d := newDisk(t, g)
	places := []string{"/a", "/b", "/a/a", "/a/b", "/b/a", "/a/a/a"}
	tree, kinds := map[string]int{}, map[int]uint64{} // which inode each path leads to; what it is
	below := func(s string) bool {
		for p := range tree {
			if strings.HasPrefix(p, s+"/") {
				return true
			}
		}
		return false
	}
	up := func(s string) bool {
		p := s[:strings.LastIndexByte(s, '/')]
		return p == "" || kinds[tree[p]] == api.IsDir
	}
	for range 2000 {
		s, to := places[next(6)], places[next(6)]
		v := view.New(d.words)
		var e api.Errno
		switch next(5) {
		case 0, 1:
			kind := uint64(1 + next(2))
			var n int
			n, e = name.Make(v, g, s, kind)
			if (e == api.OK) != (tree[s] == 0 && up(s)) || e == api.OK && kinds[n] != 0 {
				t.Fatalf("Make %q: %d, %d", s, n, e)
			}
			if e == api.OK {
				tree[s], kinds[n] = n, kind
			}
		case 2:
			e = name.Link(v, g, s, to)
			if (e == api.OK) != (tree[s] != 0 && kinds[tree[s]] == api.IsFile && tree[to] == 0 && up(to)) {
				t.Fatalf("Link %q, %q: %d", s, to, e)
			}
			if e == api.OK {
				tree[to] = tree[s]
			}
		case 3, 4:
			kind := uint64(1 + next(2))
			e = []func(*view.View, layout.Geometry, string) api.Errno{name.Unlink, name.Rmdir}[kind-1](v, g, s)
			if (e == api.OK) != (tree[s] != 0 && kinds[tree[s]] == kind && !below(s)) {
				t.Fatalf("of the kind %d, away with %q: %d", kind, s, e)
			}
			if e == api.OK {
				n := tree[s]
				delete(tree, s)
				if !slices.Contains(slices.Collect(maps.Values(tree)), n) {
					delete(kinds, n)
				}
			}
		}
		if e == api.OK {
			view.Apply(d.words, v.Writes())
		}
		d.is(tree, kinds)
	}
}

// is holds the device against a tree: what each path leads to, how many links there are, and what is free.
func (d *disk) is(tree map[string]int, kinds map[int]uint64) {
	d.t.Helper()
	links := map[int]uint64{}
	for s, n := range tree {
		d.leads(s, n)
		links[n]++
	}
	for n, kind := range kinds {
		if x, e := d.node(n); e != api.OK || x.Kind != kind || x.Links != links[n] {
			d.t.Errorf("inode %d: %v, %d; %d names lead to it", n, x, e, links[n])
		}
	}
	a, _ := alloc.New(view.New(d.words), d.g)
	if inodes, _ := a.Free(); inodes != 7-len(kinds) || d.t.Failed() {
		d.t.Fatalf("it is not the tree %v; %d inodes are free", tree, inodes)
	}
}

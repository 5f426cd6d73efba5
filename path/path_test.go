package path_test

import (
	"math"
	"slices"
	"strings"
	"testing"

	"grommet/api"
	"grommet/entry"
	"grommet/inode"
	"grommet/layout"
	"grommet/path"
	"grommet/view"
)

var g = layout.Geometry{Workers: 1, Inodes: 9, Blocks: 60}

// tree: a view of a device with /d (2), /d/e (3), /d/e/f (4, a file), /g (5, a file), /d/h (6).
func tree(t *testing.T) *view.View {
	t.Helper()
	v := view.New(layout.Format(g))
	for _, x := range []struct {
		n, in int
		name  string
		kind  uint64
	}{{2, 1, "d", api.IsDir}, {3, 2, "e", api.IsDir}, {4, 3, "f", api.IsFile}, {5, 1, "g", api.IsFile}, {6, 2, "h", api.IsDir}} {
		node := inode.Node{Kind: x.kind, Links: 1}
		if x.kind == api.IsDir {
			node.Parent = uint64(x.in)
		}
		if e := inode.Put(v, g, x.n, node); e != api.OK {
			t.Fatal(e)
		}
		if e := entry.Add(v, g, x.in, entry.Entry{Name: x.name, Inode: x.n}); e != api.OK {
			t.Fatal(e)
		}
		v = view.New(v.Flat())
	}
	return v
}

// paths: some, and their names.
func paths() map[string][]string {
	long, last := strings.Repeat("x", 40), strings.Repeat("y", 35)
	return map[string][]string{
		"/": nil, "/a": {"a"}, "/a/b": {"a", "b"}, "/.../ ": {"...", " "}, "/\xff/\xfe": {"\xff", "\xfe"}, "/" + long: {long}, "/a\n/.b": {"a\n", ".b"},
		"/" + long + "/" + long + "/" + long + "/" + long + "/" + last: {long, long, long, long, last}, // 200 bytes
		strings.Repeat("/a", 100):                                      slices.Repeat([]string{"a"}, 100),
	}
}

// noPaths: texts that are none.
func noPaths() []string {
	long := "/" + strings.Repeat("x", 40)
	return []string{"", "a", "a/b", "ab", "ab/c", "//", "/a/", "//a", "/a//b", "/.", "/..", "/a/..", "/./a", "/a\x00", "/\x00", long + "x", " /a", "/a/.", strings.Repeat("/a", 101), strings.Repeat(long, 4) + "/" + strings.Repeat("y", 36), "/" + strings.Repeat("x", 199)}
}

// P16.1, P16.4: Split and Join.
func TestSplitJoin(t *testing.T) {
	for s, want := range paths() {
		l, e := path.Split(s)
		if !slices.Equal(l, want) || e != api.OK {
			t.Errorf("Split %.20q: %q, %d", s, l, e)
		}
		before := slices.Clone(want)
		if got := path.Join(want); got != s || !slices.Equal(want, before) {
			t.Errorf("Join %q: %q", want, got)
		}
		if got := path.Join(l); got != s {
			t.Errorf("Join of Split of %q: %q", s, got)
		}
	}
	for _, s := range noPaths() {
		if l, e := path.Split(s); len(l) != 0 || e != api.ErrName {
			t.Errorf("Split %q: %q, %d", s, l, e)
		}
	}
}

// P16.1: Join of what is no path.
func TestJoinNone(t *testing.T) {
	long := strings.Repeat("x", 40)
	for _, l := range [][]string{{""}, {"a", ""}, {"", "a"}, {"."}, {"a", ".."}, {"a/b"}, {"/"}, {"\x00"}, {long + "x"}, {long, long, long, long, strings.Repeat("y", 36)}, slices.Repeat([]string{"a"}, 101)} {
		if s := path.Join(l); s != "" {
			t.Errorf("Join %q: %q", l, s)
		}
	}
	if path.Join(nil) != "/" || path.Join([]string{}) != "/" {
		t.Error("Join of nothing")
	}
}

// P16.2: Walk.
func TestWalk(t *testing.T) {
	v := tree(t)
	for s, want := range map[string]int{"/": 1, "/d": 2, "/d/e": 3, "/d/e/f": 4, "/g": 5, "/d/h": 6} {
		if n, e := path.Walk(v, g, s); n != want || e != api.OK {
			t.Errorf("Walk %q: %d, %d", s, n, e)
		}
	}
	for s, want := range map[string]api.Errno{"/a": api.ErrNone, "/d/f": api.ErrNone, "/a/b": api.ErrNone, "/g/a": api.ErrNoDir, "/d/e/f/x/y": api.ErrNoDir, "/d/h/x": api.ErrNone} {
		if n, e := path.Walk(v, g, s); n != 0 || e != want {
			t.Errorf("Walk %q: %d, %d", s, n, e)
		}
	}
	for _, s := range noPaths() {
		if n, e := path.Walk(v, g, s); n != 0 || e != api.ErrName {
			t.Errorf("Walk %q: %d, %d", s, n, e)
		}
	}
	if len(v.Writes()) != 0 {
		t.Error("a walk puts")
	}
}

// P16.2: Parent.
func TestParent(t *testing.T) {
	v := tree(t)
	for s, want := range map[string]int{"/d": 1, "/new": 1, "/d/e": 2, "/d/new": 2, "/d/e/f": 3, "/d/h/x": 6} {
		n, name, e := path.Parent(v, g, s)
		if n != want || e != api.OK || name != s[strings.LastIndexByte(s, '/')+1:] {
			t.Errorf("Parent %q: %d, %q, %d", s, n, name, e)
		}
	}
	for s, want := range map[string]api.Errno{"/": api.ErrName, "/a/b": api.ErrNone, "/g/a": api.ErrNoDir, "/g/a/b": api.ErrNoDir, "/d/e/f/x": api.ErrNoDir, "/d/x/y": api.ErrNone} {
		if n, name, e := path.Parent(v, g, s); n != 0 || name != "" || e != want {
			t.Errorf("Parent %q: %d, %q, %d", s, n, name, e)
		}
	}
	for _, s := range noPaths() {
		if n, name, e := path.Parent(v, g, s); n != 0 || name != "" || e != api.ErrName {
			t.Errorf("Parent %q: %d, %q, %d", s, n, name, e)
		}
	}
}

// P16.2: errors, in their order; what is spoilt is told where it is come to.
func TestRefused(t *testing.T) {
	words := tree(t).Flat()
	for _, c := range []struct {
		what string
		v    *view.View
		g    layout.Geometry
		s    string
		want api.Errno
	}{
		{"no view", nil, layout.Geometry{}, "", api.ErrNil},
		{"no geometry", view.New(nil), layout.Geometry{}, "", api.ErrArg},
		{"a word too few", view.New(words[:len(words)-1]), g, "", api.ErrRange},
		{"a word too few", view.New(words[:len(words)-1]), g, "/d", api.ErrRange},
		{"no path", view.New(words), g, "", api.ErrName},
	} {
		if n, e := path.Walk(c.v, c.g, c.s); n != 0 || e != c.want {
			t.Errorf("%s: Walk: %d, %d", c.what, n, e)
		}
		if n, name, e := path.Parent(c.v, c.g, c.s); n != 0 || name != "" || e != c.want {
			t.Errorf("%s: Parent: %d, %d", c.what, n, e)
		}
	}
	words[layout.InodeAt(g, 1)] = 0
	v := view.New(words)
	if n, e := path.Walk(v, g, "/"); n != 1 || e != api.OK {
		t.Errorf("Walk / of no node: %d, %d", n, e)
	}
	if n, e := path.Walk(v, g, "/d"); n != 0 || e != api.ErrBytes {
		t.Errorf("Walk /d of no node: %d, %d", n, e)
	}
	if n, e := path.Walk(v, g, "/d/"); n != 0 || e != api.ErrName {
		t.Errorf("Walk of no path, of no node: %d, %d", n, e)
	}
	if n, _, e := path.Parent(v, g, "/d"); n != 0 || e != api.ErrBytes {
		t.Errorf("Parent /d of no node: %d, %d", n, e)
	}
}

// P16.3: Within.
func TestWithin(t *testing.T) {
	v := tree(t)
	up := map[int][]int{1: {1}, 2: {2, 1}, 3: {3, 2, 1}, 4: {4}, 5: {5}, 6: {6, 2, 1}}
	for a := 1; a <= 6; a++ {
		for b := 1; b <= 6; b++ {
			if is, e := path.Within(v, g, a, b); is != slices.Contains(up[b], a) || e != api.OK {
				t.Errorf("Within %d, %d: %v, %d", a, b, is, e)
			}
		}
	}
	within := func(v *view.View, g layout.Geometry, a, b int, want api.Errno) {
		t.Helper()
		if is, e := path.Within(v, g, a, b); is || e != want {
			t.Errorf("Within %d, %d: %v, %d, not %d", a, b, is, e, want)
		}
	}
	within(nil, layout.Geometry{}, 0, 0, api.ErrNil)
	within(v, layout.Geometry{}, 1, 1, api.ErrArg)
	within(v, layout.Geometry{Workers: 1, Inodes: math.MaxInt, Blocks: 9}, 1, 1, api.ErrArg)
	within(view.New(nil), g, 1, 1, api.ErrRange)
	for _, n := range []int{math.MinInt, -1, 0, 9, math.MaxInt} {
		within(v, g, n, 1, api.ErrArg)
		within(v, g, 1, n, api.ErrArg)
	}
	within(v, g, 7, 1, api.ErrBytes)
	within(v, g, 1, 7, api.ErrBytes)
	within(v, g, 7, 0, api.ErrBytes)
	within(v, g, 0, 7, api.ErrArg)
}

// P16.3: parents that go round, or lead to no node.
func TestWithinSpoilt(t *testing.T) {
	v := tree(t)
	v.Put(layout.InodeAt(g, 2)+inode.Parent, 3) // 2 and 3 are within each other
	for _, c := range []struct {
		a, b int
		is   bool
		want api.Errno
	}{{1, 3, false, api.ErrBytes}, {1, 2, false, api.ErrBytes}, {1, 6, false, api.ErrBytes}, {2, 3, true, api.OK}, {3, 2, true, api.OK}, {3, 6, true, api.OK}, {6, 3, false, api.ErrBytes}} {
		if is, e := path.Within(v, g, c.a, c.b); is != c.is || e != c.want {
			t.Errorf("Within %d, %d: %v, %d", c.a, c.b, is, e)
		}
	}
	v.Put(layout.InodeAt(g, 2)+inode.Parent, 8) // no node
	if is, e := path.Within(v, g, 1, 3); is || e != api.ErrBytes {
		t.Errorf("by way of no node: %v, %d", is, e)
	}
	// As deep as may be, it is yes.
	v = view.New(layout.Format(g))
	for n := 2; n < 9; n++ {
		if e := inode.Put(v, g, n, inode.Node{Kind: api.IsDir, Links: 1, Parent: uint64(n - 1)}); e != api.OK {
			t.Fatal(e)
		}
	}
	if is, e := path.Within(v, g, 1, 8); !is || e != api.OK {
		t.Errorf("as deep as may be: %v, %d", is, e)
	}
}

// P16.4: Walk goes by Parent and its last name.
func TestWalkGoesByParent(t *testing.T) {
	v := tree(t)
	for _, s := range []string{"/d", "/d/e", "/d/e/f", "/g", "/d/h", "/no", "/d/no"} {
		n, e := path.Walk(v, g, s)
		dir, name, _ := path.Parent(v, g, s)
		if x, _, e2 := entry.Find(v, g, dir, name); x.Inode != n || e2 != e {
			t.Errorf("%q: %d, %d; by its parent %d, %d", s, n, e, x.Inode, e2)
		}
	}
}

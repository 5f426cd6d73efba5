package rename_test

import (
	"slices"
	"strings"
	"testing"

	"grommet/alloc"
	"grommet/api"
	"grommet/blocks"
	"grommet/entry"
	"grommet/inode"
	"grommet/layout"
	"grommet/name"
	"grommet/path"
	"grommet/rename"
	"grommet/view"
)

var g = layout.Geometry{Workers: 1, Inodes: 9, Blocks: 40}

// tree: the words of a device with these directories (with a slash behind) and files, whose inodes are 2, 3, ..
func tree(t *testing.T, g layout.Geometry, l ...string) []uint64 {
	t.Helper()
	words := layout.Format(g)
	for _, s := range l {
		kind := api.IsFile
		if strings.HasSuffix(s, "/") {
			kind = api.IsDir
		}
		v := view.New(words)
		if _, e := name.Make(v, g, strings.TrimSuffix(s, "/"), kind); e != api.OK {
			t.Fatalf("%q: %d", s, e)
		}
		view.Apply(words, v.Writes())
	}
	return words
}

// to does a renaming that must have that error, and tells the words behind it.
func to(t *testing.T, words []uint64, g layout.Geometry, s, to string, want api.Errno) []uint64 {
	t.Helper()
	v := view.New(words)
	if e := rename.Rename(v, g, s, to); e != want {
		t.Errorf("Rename %q, %q: %d, not %d", s, to, e, want)
	}
	if want != api.OK {
		return words
	}
	return v.Flat()
}

// leads holds where paths lead against what they must; 0: nowhere.
func leads(t *testing.T, words []uint64, g layout.Geometry, l map[string]int) {
	t.Helper()
	for s, want := range l {
		if n, _ := path.Walk(view.New(words), g, s); n != want {
			t.Errorf("%q leads to %d, not %d", s, n, want)
		}
	}
}

// free: how many inodes and blocks are.
func free(words []uint64, g layout.Geometry) [2]int {
	a, _ := alloc.New(view.New(words), g)
	i, b := a.Free()
	return [2]int{i, b}
}

// parent of a directory.
func parent(words []uint64, g layout.Geometry, n int) uint64 {
	return words[layout.InodeAt(g, n)+inode.Parent]
}

// P18.1: the chapter's example.
func TestExample(t *testing.T) {
	words := tree(t, g, "/d/", "/d/e/", "/f")
	to(t, words, g, "/d", "/d/e/x", api.ErrLoop)
	to(t, words, g, "/f", "/d", api.ErrIsDir)
	to(t, words, g, "/d", "/f", api.ErrNoDir)
	words = to(t, words, g, "/f", "/d/e/g", api.OK)
	words = to(t, words, g, "/d/e", "/e", api.OK)
	leads(t, words, g, map[string]int{"/e/g": 4, "/e": 3, "/d": 2, "/d/e": 0, "/f": 0})
	before := slices.Clone(words)
	words = to(t, words, g, "/e", "/e", api.OK)
	if !slices.Equal(words, before) || parent(words, g, 3) != 1 {
		t.Error("what is itself is turned, or its parent is another one")
	}
}

// P18.1: errors, in the order of the chapter.
func TestErrors(t *testing.T) {
	words := tree(t, g, "/d/", "/d/e/", "/d/e/f", "/g", "/h/", "/h/i")
	for _, c := range []struct {
		s, to string
		want  api.Errno
	}{
		{"", "", api.ErrName}, {"/", "", api.ErrName}, {"/", "/x", api.ErrName}, {"/x", "", api.ErrNone}, {"/x/y", "", api.ErrNone}, {"/g/x", "", api.ErrNoDir},
		{"/g", "", api.ErrName}, {"/g", "/", api.ErrName}, {"/g", "/x/y", api.ErrNone}, {"/g", "/g/x", api.ErrNoDir}, {"/g", "x", api.ErrName},
		{"/d", "/d/x", api.ErrLoop}, {"/d", "/d/e/f", api.ErrLoop}, {"/d", "/d/e", api.ErrLoop}, {"/d/e", "/d/e/x", api.ErrLoop},
		{"/d", "/g", api.ErrNoDir}, {"/d", "/h", api.ErrFilled}, {"/d/e", "/d", api.ErrFilled}, {"/d", "/h/i", api.ErrNoDir}, {"/h", "/d/e", api.ErrFilled},
		{"/g", "/d", api.ErrIsDir}, {"/g", "/d/e", api.ErrIsDir}, {"/d/e/f", "/d/e", api.ErrIsDir},
	} {
		to(t, words, g, c.s, c.to, c.want)
	}
	v := view.New(words)
	for _, c := range []struct {
		v    *view.View
		g    layout.Geometry
		want api.Errno
	}{{nil, layout.Geometry{}, api.ErrNil}, {v, layout.Geometry{}, api.ErrArg}, {view.New(words[:len(words)-1]), g, api.ErrRange}} {
		if e := rename.Rename(c.v, c.g, "", ""); e != c.want {
			t.Errorf("%v: %d, not %d", c.g, e, c.want)
		}
	}
}

// P18.1: over a file, a link of itself, an empty directory.
func TestOver(t *testing.T) {
	words := tree(t, g, "/a", "/b", "/c/", "/d/", "/d/e")
	v := view.New(words)
	name.Link(v, g, "/b", "/l")
	words = v.Flat()
	before := slices.Clone(words)
	words = to(t, words, g, "/b", "/l", api.OK)
	if !slices.Equal(words, before) {
		t.Error("of two names of one inode one is turned")
	}
	words = to(t, words, g, "/a", "/b", api.OK)
	leads(t, words, g, map[string]int{"/a": 0, "/b": 2, "/l": 3})
	if words[layout.InodeAt(g, 3)+inode.Links] != 1 || words[layout.InodeAt(g, 2)+inode.Links] != 1 {
		t.Error("links are not exact")
	}
	words = to(t, words, g, "/b", "/l", api.OK)
	leads(t, words, g, map[string]int{"/b": 0, "/l": 2})
	if free(words, g)[0] != 3 {
		t.Errorf("%v are free", free(words, g))
	}
	words = to(t, words, g, "/d", "/c", api.OK)
	leads(t, words, g, map[string]int{"/d": 0, "/c": 5, "/c/e": 6})
	if free(words, g)[0] != 4 || parent(words, g, 5) != 1 {
		t.Errorf("%v are free", free(words, g))
	}
}

// P18.1: what somebody has open is not released with its last name.
func TestOverOpen(t *testing.T) {
	words := tree(t, g, "/a", "/b")
	words[layout.InodeAt(g, 3)+inode.Opens] = 1
	words = to(t, words, g, "/a", "/b", api.OK)
	if x, e := inode.Get(view.New(words), g, 3); x.Links != 0 || x.Opens != 1 || e != api.OK {
		t.Errorf("%v, %d", x, e)
	}
}

// P18.1: a directory's Parent goes with it; a file has none.
func TestParent(t *testing.T) {
	words := tree(t, g, "/d/", "/d/e/", "/d/e/f/", "/g")
	words = to(t, words, g, "/d/e/f", "/d/x", api.OK)
	words = to(t, words, g, "/d/e", "/d/x/e", api.OK)
	words = to(t, words, g, "/g", "/d/x/e/g", api.OK)
	leads(t, words, g, map[string]int{"/d/x": 4, "/d/x/e": 3, "/d/x/e/g": 5, "/d/e": 0})
	if parent(words, g, 4) != 2 || parent(words, g, 3) != 4 || parent(words, g, 5) != 0 {
		t.Error("a parent is another one")
	}
	to(t, words, g, "/d", "/d/x/e/d", api.ErrLoop)
}

// begins: a name that begins at a place, the n-th such one.
func begins(at, n int) string {
	for i := 0; ; i++ {
		s := strings.Repeat("z", 1+i/26) + string(rune('a'+i%26))
		if entry.Begin(s) == at {
			if n == 0 {
				return s
			}
			n--
		}
	}
}

// P18.1: the old name is away ahead of the new one: a directory that is full, and a device, have room for it.
func TestRemoveAhead(t *testing.T) {
	h := layout.Geometry{Workers: 1, Inodes: 20, Blocks: 14}
	var l []string
	for i := range 12 {
		l = append(l, "/"+begins(i, 0))
	}
	words := tree(t, h, l...)
	if free(words, h)[1] != 0 {
		t.Fatalf("%v are free", free(words, h))
	}
	words = to(t, words, h, l[5], "/"+begins(7, 1), api.OK)
	leads(t, words, h, map[string]int{l[5]: 0, "/" + begins(7, 1): 7})
	if x, k, e := entry.Find(view.New(words), h, 1, begins(7, 1)); x.Inode != 7 || k != 5 || e != api.OK {
		t.Errorf("%v, %d, %d", x, k, e)
	}
	// Want of room elsewhere is told.
	h = layout.Geometry{Workers: 1, Inodes: 20, Blocks: 4}
	words = tree(t, h, "/"+begins(1, 0)+"/", "/"+begins(2, 0), "/"+begins(3, 0))
	to(t, words, h, "/"+begins(2, 0), "/"+begins(1, 0)+"/"+begins(9, 0), api.ErrSpace)
	words = to(t, words, h, "/"+begins(2, 0), "/"+begins(1, 0)+"/"+begins(3, 0), api.OK)
	h = layout.Geometry{Workers: 1, Inodes: 20, Blocks: 40}
	l = append([]string{"/" + begins(0, 2) + "/"}, l[:11]...)
	words = tree(t, h, append(l, "/"+begins(0, 2)+"/f")...)
	to(t, words, h, "/"+begins(0, 2)+"/f", "/"+begins(4, 3), api.ErrDir)
}

// P18.1: what is spoilt is told: nodes that say nothing, a full name that does.
func TestSpoilt(t *testing.T) {
	words := tree(t, g, "/d/", "/e/", "/e/f", "/g/", "/h")
	bad := func(at int, w uint64) []uint64 {
		l := slices.Clone(words)
		l[at] = w
		return l
	}
	to(t, bad(layout.InodeAt(g, 2), 9), g, "/d", "", api.ErrBytes)
	to(t, bad(layout.InodeAt(g, 5), 9), g, "/d", "/g", api.ErrBytes)
	to(t, bad(layout.InodeAt(g, 5), 9), g, "/h", "/g", api.ErrBytes)
	to(t, bad(layout.InodeAt(g, 3)+inode.Parent, 3), g, "/d", "/e/x", api.ErrBytes)
	to(t, bad(layout.InodeAt(g, 5)+inode.Links, 0), g, "/d", "/g", api.ErrBytes)
	m, _ := blocks.Of(view.New(words), g, 3)
	to(t, bad(layout.BlockAt(g, m.List()[0]), 0), g, "/d", "/e", api.ErrBytes)
	m, _ = blocks.Of(view.New(words), g, 3)
	to(t, bad(layout.BlockAt(g, m.List()[0]), 0), g, "/e", "/e/x", api.ErrBytes) // ahead of the loop
	// Within is asked ahead of what is there, and a view that takes no more is told.
	to(t, words, g, "/e", "/e/f", api.ErrLoop)
	v := view.New(words)
	for i := range api.MaxWrites {
		v.Put(layout.AreaAt(g, 0)+i, 0)
	}
	if e := rename.Rename(v, g, "/h", "/i"); e != api.ErrMany {
		t.Errorf("a view that takes no more: %d", e)
	}
}

// P18.2: behind it s leads nowhere, to leads to what s led to, and so does all below it; nothing else is turned.
func TestNothingElse(t *testing.T) {
	l := []string{"/a/", "/a/b/", "/a/b/c", "/d/", "/d/e", "/f", "/g/"}
	words := tree(t, g, l...)
	all := map[string]int{}
	for i, s := range l {
		all[strings.TrimSuffix(s, "/")] = 2 + i
	}
	more := []string{"/n", "/a/n", "/a/b/n", "/d/n", "/g/n"}
	paths := slices.Clone(more)
	for s := range all {
		paths = append(paths, s)
	}
	slices.Sort(paths)
	done := 0
	for _, s := range paths {
		for _, dest := range paths {
			v := view.New(words)
			e := rename.Rename(v, g, s, dest)
			if e != api.OK {
				continue
			}
			done++
			want := map[string]int{}
			for p, n := range all {
				switch {
				case s == dest:
					want[p] = n
				case p == s || strings.HasPrefix(p, s+"/"):
					want[dest+strings.TrimPrefix(p, s)] = n
				case p != dest:
					want[p] = n
				}
			}
			leads(t, v.Flat(), g, want)
			gone := 0
			if _, is := all[dest]; is && s != dest {
				gone = 1
			}
			if a := free(v.Flat(), g); a[0] != 0+gone || len(want) != 7-gone {
				t.Errorf("Rename %q, %q: %v are free, %v", s, dest, a, want)
			}
			if s != dest {
				if n, _ := path.Walk(view.New(v.Flat()), g, s); n != 0 {
					t.Errorf("Rename %q, %q: %q leads to %d", s, dest, s, n)
				}
			}
		}
	}
	if done < 30 {
		t.Errorf("%d renamings alone", done)
	}
}

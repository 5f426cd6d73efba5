package entry_test

import (
	"math"
	"slices"
	"strings"
	"testing"

	"grommet/alloc"
	"grommet/api"
	"grommet/entry"
	"grommet/inode"
	"grommet/layout"
	"grommet/view"
)

var g = layout.Geometry{Workers: 1, Inodes: 9, Blocks: 30}

// fresh: a view of a new device of so many blocks, whose inode 2 is a file.
func fresh(t *testing.T, many int) (*view.View, layout.Geometry) {
	t.Helper()
	h := layout.Geometry{Workers: 1, Inodes: 9, Blocks: many}
	v := view.New(layout.Format(h))
	if e := inode.Put(v, h, 2, inode.Node{Kind: api.IsFile, Links: 1}); e != api.OK {
		t.Fatal(e)
	}
	return view.New(v.Flat()), h
}

// begins: a name that begins at a place, the n-th such one.
func begins(at, n int) string {
	for i := 0; ; i++ {
		name := "n" + strings.Repeat("x", i/26) + string(rune('a'+i%26))
		if entry.Begin(name) == at {
			if n == 0 {
				return name
			}
			n--
		}
	}
}

func add(t *testing.T, v *view.View, g layout.Geometry, name string, n int) {
	t.Helper()
	if e := entry.Add(v, g, 1, entry.Entry{Name: name, Inode: n}); e != api.OK {
		t.Fatalf("Add %q, %d: %d", name, n, e)
	}
}

// found holds what Find tells against an entry and its place.
func found(t *testing.T, v *view.View, g layout.Geometry, name string, n, place int) {
	t.Helper()
	if x, k, e := entry.Find(v, g, 1, name); x != (entry.Entry{Name: name, Inode: n}) || k != place || e != api.OK {
		t.Errorf("Find %q: %v, %d, %d, not %d, %d", name, x, k, e, n, place)
	}
}

// lost holds what Find tells against an error.
func lost(t *testing.T, v *view.View, g layout.Geometry, name string, want api.Errno) {
	t.Helper()
	if x, k, e := entry.Find(v, g, 1, name); x != (entry.Entry{}) || k != 0 || e != want {
		t.Errorf("Find %q: %v, %d, %d, not %d", name, x, k, e, want)
	}
}

func free(v *view.View, g layout.Geometry) int {
	a, _ := alloc.New(v, g)
	_, n := a.Free()
	return n
}

// bad: names that may not be.
func bad() []string {
	return []string{"", ".", "..", "/", "a/b", "/a", "a/", "\x00", "a\x00", "\x00a", "12345678\x00", "\xff\x00", "abcdefghij/", strings.Repeat("x", 41), strings.Repeat("x", 400)}
}

// good: some that may.
func good() []string {
	return []string{"a", "...", ".a", "a.", "..a", " ", "\xff", "\xff\xfe\x80", "\x01", "\n", "ab\xef\xbf\xbd", strings.Repeat("x", 40), strings.Repeat("\xc3", 40)}
}

// P15.1: May, Begin.
func TestMay(t *testing.T) {
	for _, name := range good() {
		if !entry.May(name) {
			t.Errorf("%q may not be", name)
		}
	}
	for _, name := range bad() {
		if entry.May(name) || entry.Begin(name) != 0 {
			t.Errorf("%q may be, at %d", name, entry.Begin(name))
		}
	}
	for c := range 256 {
		if name := "n" + string([]byte{byte(c)}); entry.May(name) != (c != 0 && c != '/') {
			t.Errorf("%q", name)
		}
	}
}

// P15.1: Begin is the sum of the name's words, modulo the places.
func TestBegin(t *testing.T) {
	for name, words := range map[string][]uint64{"a": {97}, "ab": {25185}, "abcdefghi": {0x6867666564636261, 105}, "\xff": {255}} {
		var sum uint64 = 14695981039346656037
		for _, w := range words {
			sum = (sum ^ w) * 1099511628211
		}
		if k := entry.Begin(name); k != int(sum%12) {
			t.Errorf("%q begins at %d, not %d", name, k, sum%12)
		}
	}
	seen := map[int]bool{}
	for i := range 200 {
		seen[entry.Begin(strings.Repeat("y", i%40+1))] = true
	}
	for at := range 12 {
		seen[entry.Begin(begins(at, 0))] = true
	}
	if len(seen) != 12 {
		t.Errorf("names begin at %d places", len(seen))
	}
}

// P15.1 to P15.3: the chapter's example.
func TestExample(t *testing.T) {
	v, h := fresh(t, 30)
	lost(t, v, h, "a", api.ErrNone)
	add(t, v, h, "a", 1)
	found(t, v, h, "a", 1, entry.Begin("a"))
	if e := entry.Add(v, h, 1, entry.Entry{Name: "a", Inode: 1}); e != api.ErrExist {
		t.Errorf("Add again: %d", e)
	}
	if e := entry.Add(v, h, 1, entry.Entry{Name: "a/b", Inode: 1}); e != api.ErrName {
		t.Errorf("Add of no name: %d", e)
	}
	if e := entry.Remove(v, h, 1, "a"); e != api.OK {
		t.Errorf("Remove: %d", e)
	}
	if l, e := entry.List(v, h, 1); len(l) != 0 || e != api.OK {
		t.Errorf("List: %v, %d", l, e)
	}
}

// errors of all calls of a directory and a name.
func errors(v *view.View, g layout.Geometry, n int, name string) map[string]api.Errno {
	l := map[string]api.Errno{}
	_, _, l["find"] = entry.Find(v, g, n, name)
	l["add"] = entry.Add(v, g, n, entry.Entry{Name: name, Inode: 1})
	l["change"] = entry.Change(v, g, n, entry.Entry{Name: name, Inode: 1})
	l["remove"] = entry.Remove(v, g, n, name)
	_, l["list"] = entry.List(v, g, n)
	return l
}

// P15.1 to P15.3: errors, in their order.
func TestRefused(t *testing.T) {
	v, _ := fresh(t, 30)
	words := v.Flat()
	short := words[:len(words)-1]
	all := func(what string, v *view.View, g layout.Geometry, n int, name string, want api.Errno, but ...string) {
		t.Helper()
		for call, e := range errors(v, g, n, name) {
			if e != want && !slices.Contains(but, call) {
				t.Errorf("%s: %s: %d, not %d", what, call, e, want)
			}
		}
		if len(v.Writes()) != 0 {
			t.Errorf("%s: put is %v", what, v.Writes())
		}
	}
	all("no view", nil, layout.Geometry{}, 0, "", api.ErrNil)
	all("no geometry", v, layout.Geometry{}, 1, "", api.ErrArg)
	all("no inode", view.New(nil), g, 9, "", api.ErrArg)
	all("inode 0", v, g, 0, "a", api.ErrArg)
	all("too few words", view.New(short), g, 1, "", api.ErrRange)
	all("no node", v, g, 3, "", api.ErrBytes)
	all("a file", v, g, 2, "", api.ErrNoDir)
	for _, name := range bad() {
		all("no name", v, g, 1, name, api.ErrName, "list")
	}
	lost(t, v, g, "a", api.ErrNone)
	if entry.Change(v, g, 1, entry.Entry{Name: "a", Inode: 1}) != api.ErrNone || entry.Remove(v, g, 1, "a") != api.ErrNone || len(v.Writes()) != 0 {
		t.Error("a name that is not there")
	}
	for _, n := range []int{math.MinInt, -1, 0, 9, 64, math.MaxInt} {
		x := entry.Entry{Name: "a", Inode: n}
		y := entry.Entry{Name: "", Inode: n}
		for _, e := range []api.Errno{entry.Add(v, g, 1, x), entry.Change(v, g, 1, x), entry.Add(v, g, 2, y), entry.Change(v, g, 3, y), entry.Add(view.New(short), g, 1, y), entry.Change(view.New(nil), g, 1, y)} {
			if e != api.ErrArg {
				t.Errorf("the inode %d: %d", n, e)
			}
		}
		if entry.Add(nil, g, 1, x) != api.ErrNil || entry.Change(nil, g, 1, x) != api.ErrNil {
			t.Errorf("the inode %d, no view", n)
		}
	}
}

// P15.2: what Add puts, and in which order.
func TestWhatAddPuts(t *testing.T) {
	v, h := fresh(t, 30)
	name := begins(2, 3)
	add(t, v, h, name, 7)
	b := layout.BlockAt(h, 1)
	want := []api.Write{{At: layout.BlockMapAt(h), Value: 3}, {At: b, Value: 7}, {At: b + 1, Value: uint64(len(name))}}
	for i := range 6 {
		var w uint64
		for n := range 8 {
			if at := 8*i + n; at < len(name) {
				w |= uint64(name[at]) << (8 * n)
			}
		}
		want = append(want, api.Write{At: b + 2 + i, Value: w})
	}
	want = append(want, api.Write{At: layout.InodeAt(h, 1) + inode.First + 2, Value: 1})
	if l := v.Writes(); !slices.Equal(l, want) {
		t.Errorf("%q: %v, not %v", name, l, want)
	}
	found(t, v, h, name, 7, 2)
	for _, name := range good() {
		v, h := fresh(t, 30)
		add(t, v, h, name, 8)
		found(t, v, h, name, 8, entry.Begin(name))
	}
}

// P15.1, P15.2: a name stands at the first empty place from its beginning on, going round; all places are looked at.
func TestPlaces(t *testing.T) {
	v, h := fresh(t, 30)
	for i := range 4 {
		add(t, v, h, begins(10, i), 3+i)
		v = view.New(v.Flat())
	}
	for i, place := range []int{10, 11, 0, 1} {
		found(t, v, h, begins(10, i), 3+i, place)
	}
	if e := entry.Remove(v, h, 1, begins(10, 0)); e != api.OK {
		t.Fatal(e)
	}
	v = view.New(v.Flat())
	found(t, v, h, begins(10, 3), 6, 1) // behind an empty place
	add(t, v, h, begins(11, 0), 5)
	found(t, v, h, begins(11, 0), 5, 2)
	add(t, v, h, begins(10, 4), 8)
	found(t, v, h, begins(10, 4), 8, 10)
	want := []entry.Entry{{begins(10, 2), 5}, {begins(10, 3), 6}, {begins(11, 0), 5}, {begins(10, 4), 8}, {begins(10, 1), 4}}
	if l, e := entry.List(v, h, 1); !slices.Equal(l, want) || e != api.OK {
		t.Errorf("List: %v, %d, not %v", l, e, want)
	}
}

// filled: a view of a new device whose first directory has twelve names.
func filled(t *testing.T, many int) (*view.View, layout.Geometry) {
	v, h := fresh(t, many)
	for i := range 12 {
		add(t, v, h, begins(3, i), 2)
		v = view.New(v.Flat())
	}
	return v, h
}

// P15.2: ErrDir, and ErrSpace, in their order.
func TestNoRoom(t *testing.T) {
	v, h := filled(t, 14)
	if free(v, h) != 0 {
		t.Fatalf("%d are free", free(v, h))
	}
	if e := entry.Add(v, h, 1, entry.Entry{Name: begins(5, 0), Inode: 1}); e != api.ErrDir || len(v.Writes()) != 0 {
		t.Errorf("a directory that is full: %d", e)
	}
	if e := entry.Add(v, h, 1, entry.Entry{Name: begins(3, 11), Inode: 1}); e != api.ErrExist {
		t.Errorf("a name that is there: %d", e)
	}
	lost(t, v, h, begins(5, 0), api.ErrNone)
	v, h = fresh(t, 2)
	if e := entry.Add(v, h, 1, entry.Entry{Name: begins(5, 0), Inode: 1}); e != api.ErrSpace || len(v.Writes()) != 0 {
		t.Errorf("two blocks are wanted, one is free: %d", e)
	}
	add(t, v, h, begins(2, 0), 1)
	if e := entry.Add(v, h, 1, entry.Entry{Name: begins(2, 1), Inode: 1}); e != api.ErrSpace {
		t.Errorf("no block is free: %d", e)
	}
	if e := entry.Add(v, h, 1, entry.Entry{Name: begins(2, 0), Inode: 1}); e != api.ErrExist {
		t.Errorf("no block is free, and the name is there: %d", e)
	}
}

// P15.3: Change turns the inode's number alone.
func TestChange(t *testing.T) {
	v, h := fresh(t, 30)
	name := begins(2, 0)
	add(t, v, h, name, 2)
	v = view.New(v.Flat())
	if e := entry.Change(v, h, 1, entry.Entry{Name: name, Inode: 2}); e != api.OK || len(v.Writes()) != 0 {
		t.Errorf("to what it is: %d, %v", e, v.Writes())
	}
	if e := entry.Change(v, h, 1, entry.Entry{Name: name, Inode: 8}); e != api.OK || !slices.Equal(v.Writes(), []api.Write{{At: layout.BlockAt(h, 1), Value: 8}}) {
		t.Errorf("%d, %v", e, v.Writes())
	}
	found(t, v, h, name, 8, 2)
}

// P15.3: Remove gives the place's block back.
func TestRemove(t *testing.T) {
	v, h := filled(t, 30)
	for i := range 12 {
		if e := entry.Remove(v, h, 1, begins(3, (i*5)%12)); e != api.OK {
			t.Fatal(e)
		}
		v = view.New(v.Flat())
		lost(t, v, h, begins(3, (i*5)%12), api.ErrNone)
		if e := entry.Remove(v, h, 1, begins(3, (i*5)%12)); e != api.ErrNone {
			t.Errorf("again: %d", e)
		}
		if l, e := entry.List(v, h, 1); len(l) != 11-i || e != api.OK {
			t.Errorf("%d are left, %d", len(l), e)
		}
	}
	if free(v, h) != 29 {
		t.Errorf("%d are free", free(v, h))
	}
}

// P15.1, P15.3: an entry that says nothing is told where it is come to.
func TestSpoilt(t *testing.T) {
	for what, spoil := range map[string][2]uint64{
		"inode 0": {0, 0}, "inode 9": {0, 9}, "a great inode": {0, math.MaxUint64}, "length 0": {1, 0}, "length 41": {1, 41}, "a great length": {1, 1 << 63},
		"a slash": {2, '/'<<8 | 'n'}, "a nought": {1, 40}, "a dot": {2, 0},
	} {
		v, h := fresh(t, 30)
		names := []string{begins(1, 0), begins(2, 0), begins(3, 0)}
		for i, name := range names {
			add(t, v, h, name, 2+i)
		}
		v.Put(layout.BlockAt(h, 2)+int(spoil[0]), spoil[1])
		v = view.New(v.Flat())
		found(t, v, h, names[0], 2, 1)
		found(t, v, h, names[2], 4, 3)
		lost(t, v, h, names[1], api.ErrBytes)
		lost(t, v, h, begins(1, 1), api.ErrBytes)
		x := entry.Entry{Name: names[1], Inode: 1}
		for _, e := range []api.Errno{entry.Add(v, h, 1, x), entry.Change(v, h, 1, x), entry.Remove(v, h, 1, x.Name)} {
			if e != api.ErrBytes {
				t.Errorf("%s: %d", what, e)
			}
		}
		if l, e := entry.List(v, h, 1); len(l) != 0 || e != api.ErrBytes || len(v.Writes()) != 0 {
			t.Errorf("%s: List: %v, %d", what, l, e)
		}
	}
	v, h := fresh(t, 30)
	add(t, v, h, begins(2, 0), 2)
	v.Put(layout.InodeAt(h, 1)+inode.Chain, 9)
	v.Put(layout.BlockAt(h, 9)+3, 30)
	lost(t, v, h, begins(3, 0), api.ErrBytes)
	if l, e := entry.List(v, h, 1); len(l) != 0 || e != api.ErrBytes {
		t.Errorf("a block that is none: %v, %d", l, e)
	}
	found(t, v, h, begins(2, 0), 2, 2)
}

// P15.1: words, and bytes, behind the name say nothing.
func TestBehindTheName(t *testing.T) {
	v, h := fresh(t, 30)
	name := begins(1, 0)
	add(t, v, h, name, 2)
	b := layout.BlockAt(h, 1)
	v.Put(b+2, v.Get(b+2)|'/'<<56)
	for i := 3; i < 8; i++ {
		v.Put(b+i, math.MaxUint64)
	}
	found(t, v, h, name, 2, 1)
	if l, e := entry.List(v, h, 1); !slices.Equal(l, []entry.Entry{{name, 2}}) || e != api.OK {
		t.Errorf("List: %v, %d", l, e)
	}
}

// P15.2: a view that takes no more.
func TestMany(t *testing.T) {
	for left, want := range map[int]api.Errno{0: api.ErrMany, 8: api.ErrMany, 9: api.ErrMany, 10: api.OK} {
		v, h := fresh(t, 30)
		for i := range api.MaxWrites - left {
			v.Put(layout.AreaAt(h, 0)+i, 0)
		}
		if e := entry.Add(v, h, 1, entry.Entry{Name: begins(1, 0), Inode: 2}); e != want {
			t.Errorf("%d words left: %d", left, e)
		}
	}
}

// P15.4: a directory is a table of names.
func TestTable(t *testing.T) {
	seed := uint64(4)
	next := func(n int) int {
		seed = seed*6364136223846793005 + 1442695040888963407
		return int((seed >> 33) % uint64(n))
	}
	var names []string
	for i := range 30 {
		names = append(names, begins(i%7, i/7))
	}
	v, h := fresh(t, 30)
	words, table := v.Flat(), map[string]int{}
	for range 3000 {
		v := view.New(words)
		x := entry.Entry{Name: names[next(30)], Inode: 1 + next(8)}
		_, is := table[x.Name]
		want := api.ErrNone
		switch next(4) {
		case 0, 1:
			switch {
			case is:
				want = api.ErrExist
			case len(table) == 12:
				want = api.ErrDir
			default:
				want, table[x.Name] = api.OK, x.Inode
			}
			if e := entry.Add(v, h, 1, x); e != want {
				t.Fatalf("Add: %d, not %d", e, want)
			}
		case 2:
			if is {
				want, table[x.Name] = api.OK, x.Inode
			}
			if e := entry.Change(v, h, 1, x); e != want {
				t.Fatalf("Change: %d, not %d", e, want)
			}
		case 3:
			if is {
				want = api.OK
				delete(table, x.Name)
			}
			if e := entry.Remove(v, h, 1, x.Name); e != want {
				t.Fatalf("Remove: %d, not %d", e, want)
			}
		}
		for _, name := range names {
			x, _, e := entry.Find(v, h, 1, name)
			if n, is := table[name]; is != (e == api.OK) || x.Inode != n {
				t.Fatalf("Find: %v, %d, not %d", x, e, n)
			}
		}
		if l, e := entry.List(v, h, 1); len(l) != len(table) || e != api.OK {
			t.Fatalf("List: %v, %d", l, e)
		}
		view.Apply(words, v.Writes())
	}
}

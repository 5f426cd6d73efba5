package check_test

import (
	"math"
	"slices"
	"strings"
	"testing"

	"grommet/api"
	"grommet/blocks"
	"grommet/check"
	"grommet/class"
	"grommet/entry"
	"grommet/inode"
	"grommet/layout"
	"grommet/plan"
	"grommet/record"
	"grommet/view"
)

var g = layout.Geometry{Workers: 1, Inodes: 12, Blocks: 70}

type (
	req   = api.Request
	fault = check.Fault
)

// tree: a device whose session 0 is open, with the directories /a (2), /a/b (3) and /c (5), and the files /a/b/f (4), /d (6) and /e (7), which is /c/e, too.
// /d has 300 bytes, of the places 0 and 4 alone. The descriptor 0 leads to 4, 1 to 6.
func tree(t *testing.T) []uint64 {
	t.Helper()
	words := layout.Format(g)
	_, l, _ := plan.Open(words, 0, 1)
	view.Apply(words, l)
	for i, r := range []req{
		{Kind: api.ReqMkdir, Path: "/a"}, {Kind: api.ReqMkdir, Path: "/a/b"}, {Kind: api.ReqOpen, Path: "/a/b/f", Flags: 1}, {Kind: api.ReqMkdir, Path: "/c"},
		{Kind: api.ReqOpen, Path: "/d", Flags: 1}, {Kind: api.ReqWrite, Fd: 1, Data: "abc"}, {Kind: api.ReqSeek, Fd: 1, At: 299}, {Kind: api.ReqWrite, Fd: 1, Data: "z"},
		{Kind: api.ReqOpen, Path: "/e", Flags: 1}, {Kind: api.ReqClose, Fd: 2}, {Kind: api.ReqLink, Path: "/e", To: "/c/e"},
	} {
		_, x, l, e := plan.Call(words, 0, 1, uint64(i+1), r)
		if e != api.OK || x.Err != api.OK {
			t.Fatal(r, x, e)
		}
		view.Apply(words, l)
		_, l, _ = plan.Ack(words, 0, 1, uint64(i+1))
		view.Apply(words, l)
	}
	return words
}

// looks holds what Look tells of words against a fault (a zero one: none).
func looks(t *testing.T, what string, words []uint64, want fault) {
	t.Helper()
	before := slices.Clone(words)
	f, sound := check.Look(words)
	if f != want || sound != (want == fault{}) {
		t.Errorf("%s: %v, %v, not %v", what, f, sound, want)
	}
	if !sound && len(check.Reach(words)) != 0 {
		t.Errorf("%s: %v are reached", what, check.Reach(words))
	}
	if !slices.Equal(words, before) {
		t.Errorf("%s: words are turned", what)
	}
}

// turn holds the fault of a sound device of which some words are others: places and values, by turns.
func turn(t *testing.T, what string, want fault, l ...int) {
	t.Helper()
	words := tree(t)
	for i := 0; i < len(l); i += 2 {
		words[l[i]] = uint64(l[i+1])
	}
	looks(t, what, words, want)
}

// node: where a word of an inode stands.
func node(n, word int) int {
	return layout.InodeAt(g, n) + word
}

// blockOf: the block of an inode's place.
func blockOf(t *testing.T, n, k int) int {
	t.Helper()
	m, _ := blocks.Of(view.New(tree(t)), g, n)
	b, e := m.At(k)
	if e != api.OK || b == 0 {
		t.Fatalf("the place %d of %d has no block", k, n)
	}
	return b
}

// placeOf: the block of a name in a directory.
func placeOf(t *testing.T, dir int, name string) int {
	t.Helper()
	_, k, e := entry.Find(view.New(tree(t)), g, dir, name)
	if e != api.OK {
		t.Fatalf("%q is not there", name)
	}
	return blockOf(t, dir, k)
}

// word: a block's word.
func word(b, i int) int {
	return layout.BlockAt(g, b) + i
}

// bits of a map, as the tree has them.
func bits(t *testing.T, at int) int {
	t.Helper()
	return int(tree(t)[at])
}

// P25.1: of what is sound.
func TestSound(t *testing.T) {
	for _, h := range []layout.Geometry{g, {Workers: 4, Inodes: 64, Blocks: 512}, {Workers: 1, Inodes: 2, Blocks: 2}} {
		words := layout.Format(h)
		looks(t, "a new device", words, fault{})
		looks(t, "a new device, and more words", append(words, 1, 2, 3), fault{})
		if l := check.Reach(words); !slices.Equal(l, []int{1}) {
			t.Errorf("%v are reached", l)
		}
	}
	looks(t, "the tree", tree(t), fault{})
	if l := check.Reach(tree(t)); !slices.Equal(l, []int{1, 2, 3, 4, 5, 6, 7}) {
		t.Errorf("%v are reached", l)
	}
	for n, k := range []int{check.Device, check.Heads, check.Slots, check.Descriptors, check.Inodes, check.Names, check.Links, check.Opens, check.Taken, check.Blocks, check.Tails} {
		if k != n+1 {
			t.Errorf("a kind is %d, not %d", k, n+1)
		}
	}
}

// P25.1: a file without names that a descriptor leads to is reached.
func TestReachOpen(t *testing.T) {
	words := tree(t)
	_, x, l, e := plan.Call(words, 0, 1, 12, req{Kind: api.ReqUnlink, Path: "/d"})
	if e != api.OK || x.Err != api.OK {
		t.Fatal(x, e)
	}
	view.Apply(words, l)
	looks(t, "a file without names", words, fault{})
	if l := check.Reach(words); !slices.Equal(l, []int{1, 2, 3, 4, 5, 6, 7}) {
		t.Errorf("%v are reached", l)
	}
}

// P25.1: the chapter's examples.
func TestExamples(t *testing.T) {
	words := layout.Format(g)
	words[layout.InodeMapAt(g)] |= 4
	looks(t, "a bit of the map of inodes", words, fault{check.Inodes, 2, 0})
	words = layout.Format(g)
	words[node(1, 1)] = 2
	looks(t, "the inode 1's Links", words, fault{check.Links, 1, 0})
}

// P25.1: Device.
func TestDevice(t *testing.T) {
	want := fault{check.Device, 0, 0}
	looks(t, "nothing", nil, want)
	looks(t, "too few words", tree(t)[:layout.Words(g)-1], want)
	turn(t, "the superblock", want, 0, 7)
	turn(t, "the bit 0 of inodes", want, layout.InodeMapAt(g), bits(t, layout.InodeMapAt(g))&^1)
	turn(t, "the bit 1 of inodes", want, layout.InodeMapAt(g), bits(t, layout.InodeMapAt(g))&^2)
	turn(t, "the bit 0 of blocks", want, layout.BlockMapAt(g), bits(t, layout.BlockMapAt(g))&^1)
	turn(t, "the inode 1 a file", want, node(1, 0), 1)
	turn(t, "the inode 1 no node", want, node(1, 0), 3)
	turn(t, "the inode 1's parent", want, node(1, inode.Parent), 2)
	turn(t, "the inode 1's size", want, node(1, inode.Size), 2)
}

// P25.1: Heads and Slots.
func TestSessions(t *testing.T) {
	for i := range 4 {
		turn(t, "a head", fault{check.Heads, i, 0}, layout.SessionAt(i), 2)
	}
	turn(t, "closed, with descriptors", fault{check.Heads, 0, 0}, layout.SessionAt(0), 0)
	turn(t, "closed, with a descriptor", fault{check.Heads, 3, 0}, layout.DescriptorAt(3, 3), 1)
	turn(t, "closed, with a place alone", fault{}, layout.DescriptorAt(3, 3)+1, 9999)
	turn(t, "the other words", fault{}, layout.SessionAt(1)+3, 9999)
	mark := 11 // of the tree
	turn(t, "as far as may be", fault{}, layout.SlotAt(0, 3), mark+4)
	turn(t, "too far", fault{check.Slots, 0, 0}, layout.SlotAt(0, 0), mark+5)
	turn(t, "another one's number", fault{check.Slots, 0, 2}, layout.SlotAt(0, 2), 11)
	turn(t, "a result that says nothing", fault{check.Slots, 0, 1}, layout.SlotAt(0, 1)+1, 25)
	turn(t, "no number, whatever stands there", fault{}, layout.SlotAt(0, 1), 0, layout.SlotAt(0, 1)+1, 25)
	turn(t, "closed: however far", fault{}, layout.SlotAt(1, 1), 400001)
	turn(t, "closed: another one's number", fault{check.Slots, 1, 1}, layout.SlotAt(1, 1), 400002)
	turn(t, "closed: a result that says nothing", fault{check.Slots, 2, 3}, layout.SlotAt(2, 3), 3, layout.SlotAt(2, 3)+1, 65*256)
	turn(t, "a great mark", fault{}, layout.SessionAt(0)+2, math.MaxInt)
}

// P25.1: Descriptors.
func TestDescriptors(t *testing.T) {
	want := fault{check.Descriptors, 0, 2}
	at := layout.DescriptorAt(0, 2)
	turn(t, "to no inode", want, at, 12)
	turn(t, "to a directory", want, at, 2)
	turn(t, "to no node", want, at, 9)
	turn(t, "too far a place", want, at, 6, at+1, 769)
	turn(t, "its node says nothing", fault{check.Descriptors, 0, 0}, node(4, 0), 9)
	turn(t, "to a file", fault{check.Opens, 6, 0}, at, 6)
}

// P25.1: Inodes.
func TestInodes(t *testing.T) {
	m := layout.InodeMapAt(g)
	turn(t, "a bit without a node", fault{check.Inodes, 8, 0}, m, bits(t, m)|256)
	turn(t, "a node without a bit", fault{check.Inodes, 7, 0}, m, bits(t, m)&^128)
	turn(t, "a bit behind the last one", fault{}, m, bits(t, m)|4096)
	turn(t, "a node that is not right", fault{check.Inodes, 7, 0}, node(7, inode.Size), 769)
	turn(t, "a node of no kind", fault{check.Inodes, 7, 0}, node(7, 0), 9)
	for i := 1; i < inode.Used; i++ {
		turn(t, "a word of none", fault{check.Inodes, 9, 0}, node(9, i), 1)
	}
	turn(t, "a word behind", fault{}, node(9, inode.Used), 1, node(7, 15), 1)
}

// P25.1: Names.
func TestNames(t *testing.T) {
	turn(t, "a name that says nothing", fault{check.Names, 1, 0}, word(placeOf(t, 1, "d"), 1), 41)
	turn(t, "below", fault{check.Names, 3, 0}, word(placeOf(t, 3, "f"), 0), 12)
	turn(t, "to no node", fault{check.Names, 1, 9}, word(placeOf(t, 1, "d"), 0), 9)
	turn(t, "to the inode 1", fault{check.Names, 3, 1}, word(placeOf(t, 3, "f"), 0), 1)
	turn(t, "a parent", fault{check.Names, 1, 5}, node(5, inode.Parent), 2)
	turn(t, "to a directory of another one", fault{check.Names, 5, 3}, word(placeOf(t, 5, "e"), 0), 3)
	d, e := placeOf(t, 1, "d"), placeOf(t, 1, "e")
	_, kd, _ := entry.Find(view.New(tree(t)), g, 1, "d")
	_, ke, _ := entry.Find(view.New(tree(t)), g, 1, "e")
	second := 6 // the inode of the later place
	if ke > kd {
		second = 7
	}
	turn(t, "a name twice", fault{check.Names, 1, second}, word(d, 2), 'x', word(e, 2), 'x')
	// A directory that is named twice in one: the second name.
	turn(t, "a directory twice", fault{check.Names, 1, 5}, word(d, 0), 5)
	turn(t, "a block of none", fault{check.Names, 2, 0}, node(2, inode.Chain), 69, word(69, 3), 70)
}

// P25.1: Names, in their order: what stands in a directory ahead of what stands below it.
func TestNamesOrder(t *testing.T) {
	f, c := word(placeOf(t, 3, "f"), 0), word(placeOf(t, 5, "e"), 0)
	turn(t, "here ahead of below", fault{check.Names, 1, 9}, f, 12, word(placeOf(t, 1, "e"), 0), 9)
	_, ka, _ := entry.Find(view.New(tree(t)), g, 1, "a")
	_, kc, _ := entry.Find(view.New(tree(t)), g, 1, "c")
	want := fault{check.Names, 3, 0}
	if kc < ka {
		want = fault{check.Names, 5, 0}
	}
	turn(t, "by places", want, f, 12, c, 12)
	turn(t, "of its own, ahead of what it names", fault{check.Names, 3, 9}, f, 9, c, 7)
}

// P25.1: Links and Opens.
func TestLinksOpens(t *testing.T) {
	turn(t, "one link more", fault{check.Links, 7, 0}, node(7, inode.Links), 3)
	turn(t, "one link less", fault{check.Links, 7, 0}, node(7, inode.Links), 1)
	turn(t, "a link of a directory", fault{check.Links, 2, 0}, node(2, inode.Links), 2)
	turn(t, "no link of the first one", fault{check.Links, 1, 0}, node(1, inode.Links), 0)
	turn(t, "an open more", fault{check.Opens, 7, 0}, node(7, inode.Opens), 1)
	turn(t, "an open less", fault{check.Opens, 4, 0}, node(4, inode.Opens), 0)
	turn(t, "opens of a directory", fault{check.Opens, 3, 0}, node(3, inode.Opens), 1)
	m := layout.InodeMapAt(g)
	turn(t, "what nothing leads to", fault{check.Opens, 8, 0}, m, bits(t, m)|256, node(8, 0), 1)
	turn(t, "a directory that nothing leads to", fault{check.Links, 8, 0}, m, bits(t, m)|256, node(8, 0), 2, node(8, 1), 1, node(8, inode.Parent), 8)
}

// P25.1: Taken and Blocks.
func TestBlocks(t *testing.T) {
	b, last := blockOf(t, 6, 0), blockOf(t, 6, 4)
	m := layout.BlockMapAt(g)
	turn(t, "a block of none", fault{check.Taken, 6, 0}, word(bchain(t), 5), 70)
	turn(t, "a block twice in a list", fault{check.Taken, 6, b}, node(6, inode.First+1), b)
	turn(t, "a chain that is a block, too", fault{check.Taken, 6, last}, word(last, 7), 0, node(6, inode.First), last)
	turn(t, "a block of an inode ahead", fault{check.Taken, 7, b}, node(7, inode.First), b, node(7, inode.Size), 64)
	turn(t, "a bit without a block", fault{check.Blocks, 60, 0}, m, bits(t, m)|1<<60)
	turn(t, "a bit of the next word", fault{check.Blocks, 69, 0}, m+1, 32)
	turn(t, "bits behind the last one", fault{}, m+1, 64)
	turn(t, "a block without a bit", fault{check.Blocks, b, 0}, m, bits(t, m)&^(1<<b))
	turn(t, "the block 1 without a bit", fault{check.Blocks, 1, 0}, m, bits(t, m)&^2)
	turn(t, "a block that is let go", fault{check.Blocks, b, 0}, node(6, inode.First), 0)
}

// bchain: the Chain of the inode 6.
func bchain(t *testing.T) int {
	t.Helper()
	x, _ := inode.Get(view.New(tree(t)), g, 6)
	return int(x.Chain)
}

// P25.1: Tails.
func TestTails(t *testing.T) {
	want := fault{check.Tails, 6, 0}
	last := blockOf(t, 6, 4)
	turn(t, "a block behind the size", want, node(6, inode.Size), 256)
	turn(t, "a block far behind the size", want, node(6, inode.Size), 0)
	turn(t, "a block at the size", want, node(6, inode.Size), 64)
	turn(t, "a block of noughts at the size", want, node(6, inode.Size), 256, word(last, 5), 0)
	turn(t, "a byte behind the size", want, node(6, inode.Size), 299)
	turn(t, "the size at the last byte", fault{}, node(6, inode.Size), 300)
	turn(t, "the size at the block's end", fault{}, node(6, inode.Size), 320)
	turn(t, "the size far behind", fault{}, node(6, inode.Size), 768)
	turn(t, "the byte behind", want, word(last, 5), int(tree(t)[word(last, 5)]|1<<32))
	turn(t, "the last byte of the block", want, word(last, 7), 1<<56)
	m := layout.BlockMapAt(g)
	turn(t, "a chain that has nothing", fault{check.Tails, 7, 0}, node(7, inode.Chain), 60, m, bits(t, m)|1<<60)
	for _, n := range []int{2, 3, 5} {
		if tree(t)[node(n, inode.Chain)] == 0 {
			turn(t, "a chain of a directory that has nothing", fault{check.Tails, n, 0}, node(n, inode.Chain), 60, m, bits(t, m)|1<<60)
		}
	}
	words := layout.Format(g)
	words[node(1, inode.Chain)], words[m] = 60, 1|1<<60
	looks(t, "a chain of the first directory that has nothing", words, fault{check.Tails, 1, 0})
}

// P25.1: the first fault alone is told, by the kinds' order.
func TestOrder(t *testing.T) {
	m := layout.BlockMapAt(g)
	faults := [][]int{
		{node(6, inode.Size), 299}, {m + 1, 32}, {node(7, inode.First), blockOf(t, 6, 0)}, {node(7, inode.Opens), 1}, {node(2, inode.Links), 2},
		{word(placeOf(t, 1, "a"), 1), 41}, {node(9, 3), 1}, {layout.DescriptorAt(0, 3), 99}, {layout.SlotAt(3, 3), 1}, {layout.SessionAt(3), 5}, {1, 0},
	}
	words := tree(t)
	for i, f := range faults {
		words[f[0]] = uint64(f[1])
		if got, sound := check.Look(words); sound || got.Kind != check.Tails-i {
			t.Errorf("with %d faults: %v", i+1, got)
		}
	}
}

// R1: any words at all.
func TestAnyWords(t *testing.T) {
	seed := uint64(33)
	next := func(n int) int {
		seed = seed*6364136223846793005 + 1442695040888963407
		return int((seed >> 33) % uint64(n))
	}
	whole := tree(t)
	for range 3000 {
		words := slices.Clone(whole)
		for range 1 + next(3) {
			at := next(len(words))
			if next(2) == 0 {
				at = layout.InodeMapAt(g) + next(300)
			}
			words[at] = []uint64{0, 1, 2, 3, uint64(next(80)), math.MaxUint64, 1 << 63}[next(7)]
		}
		f, sound := check.Look(words)
		if sound != (f == fault{}) || sound != (len(check.Reach(words)) > 0) {
			t.Fatalf("%v, %v", f, sound)
		}
	}
}

// P25.2, W4: whatever is planned on a sound device, it is sound behind its writes, and each inode whose bit is set is reached; when all is closed and taken away all is free.
func TestPlansStaySound(t *testing.T) {
	for seed := range uint64(8) {
		state := seed + 51
		next := func(n int) int {
			state = state*6364136223846793005 + 1442695040888963407
			return int((state >> 33) % uint64(n))
		}
		h := layout.Geometry{Workers: 1, Inodes: 5 + int(seed), Blocks: 12 + 9*int(seed)}
		words := layout.Format(h)
		var gens, seqs [4]uint64
		for range 700 {
			i := next(4)
			l := planned(t, words, i, &gens[i], &seqs[i], next)
			if !record.May(h, l) || view.Apply(words, l) != api.OK {
				t.Fatalf("%v may not be", l)
			}
			if f, sound := check.Look(words); !sound {
				t.Fatalf("%v", f)
			}
			reach := check.Reach(words)
			for n := 1; n < h.Inodes; n++ {
				if is := words[layout.InodeMapAt(h)]>>n&1 == 1; is != slices.Contains(reach, n) {
					t.Fatalf("inode %d: %v; %v are reached", n, is, reach)
				}
			}
		}
		closed(t, words, gens)
		emptied(t, words, 1, "")
		maps := layout.InodeMapAt(h)
		if f, sound := check.Look(words); !sound || words[maps] != 3 || words[maps+8] != 1 || slices.Max(words[maps+9:maps+16]) != 0 {
			t.Fatalf("%v; not all is free: %x", f, words[maps:maps+16])
		}
	}
}

// closed: all sessions are.
func closed(t *testing.T, words []uint64, gens [4]uint64) {
	t.Helper()
	for i, gen := range gens {
		if gen == 0 {
			continue
		}
		_, l, e := plan.Close(words, i, gen)
		if e != api.OK || !record.May(of(words), l) {
			t.Fatal("Close: ", e)
		}
		view.Apply(words, l)
	}
}

// of: the geometry of words.
func of(words []uint64) layout.Geometry {
	h, _ := layout.Of(words)
	return h
}

// emptied: all that is in a directory is taken away.
func emptied(t *testing.T, words []uint64, dir int, above string) {
	t.Helper()
	list, _ := entry.List(view.New(words), of(words), dir)
	for _, x := range list {
		s := above + "/" + x.Name
		r := req{Kind: api.ReqUnlink, Path: s}
		if node, _ := inode.Get(view.New(words), of(words), x.Inode); node.Kind == api.IsDir {
			emptied(t, words, x.Inode, s)
			r.Kind = api.ReqRmdir
		}
		v := view.New(words)
		if got := plan.Do(v, of(words), 0, r); got.Err != api.OK {
			t.Fatalf("away with %q: %v", s, got)
		}
		view.Apply(words, v.Writes())
	}
}

// planned: the writes of something that a session asks for.
func planned(t *testing.T, words []uint64, i int, gen, seq *uint64, next func(int) int) []api.Write {
	t.Helper()
	c, l, e := plan.Open(words, i, *gen+1)
	if e != api.OK {
		t.Fatal("Open: ", e)
	}
	if c == class.New {
		*gen, *seq = *gen+1, 0
		return l
	}
	switch next(30) {
	case 0:
		_, l, e = plan.Close(words, i, *gen)
	case 1, 2, 3, 4, 5, 6, 7, 8, 9, 10, 11, 12:
		_, l, e = plan.Ack(words, i, *gen, *seq)
	default:
		var c class.Class
		c, _, l, e = plan.Call(words, i, *gen, *seq+1, anything(next))
		if c == class.New && e == api.OK {
			*seq++
		}
	}
	if e != api.OK {
		t.Fatal("a plan: ", e)
	}
	return l
}

// anything that may be asked for.
func anything(next func(int) int) req {
	paths := []string{"/a", "/b", "/a/a", "/a/b", "/b/a", "/a/a/a", "/c", "/"}
	kinds := []uint8{1, 1, 1, 1, 8, 8, 4, 4, 4, 2, 5, 6, 9, 10, 11, 12, 12}
	r := req{Kind: kinds[next(len(kinds))]}
	switch r.Kind {
	case api.ReqOpen:
		r.Path, r.Flags = paths[next(8)], uint8(next(8))|api.Create
	case api.ReqLink, api.ReqRename:
		r.Path, r.To = paths[next(8)], paths[next(8)]
	case api.ReqMkdir, api.ReqRmdir, api.ReqUnlink:
		r.Path = paths[next(8)]
	case api.ReqWrite:
		r.Fd, r.Data = uint64(next(4)), strings.Repeat("x", next(129))
	case api.ReqSeek, api.ReqTruncate:
		r.Fd, r.At = uint64(next(4)), uint64(next(769))
	case api.ReqClose:
		r.Fd = uint64(next(4))
	}
	return r
}

package plan_test

import (
	"math"
	"slices"
	"strings"
	"testing"

	"grommet/api"
	"grommet/class"
	"grommet/fd"
	"grommet/inode"
	"grommet/layout"
	"grommet/plan"
	"grommet/record"
	"grommet/slot"
	"grommet/view"
)

var g = layout.Geometry{Workers: 1, Inodes: 9, Blocks: 60}

type req = api.Request

// disk is a device's words, on which plans are done one behind the other.
type disk struct {
	t     *testing.T
	g     layout.Geometry
	words []uint64
	seq   uint64 // of the last call of session 0
}

// newDisk: a new one, whose session 0 is open.
func newDisk(t *testing.T, g layout.Geometry) *disk {
	t.Helper()
	d := &disk{t: t, g: g, words: layout.Format(g)}
	c, l, e := plan.Open(d.words, 0, 1)
	if c != class.New || len(l) != 2 || e != api.OK {
		t.Fatalf("Open: %d, %v, %d", c, l, e)
	}
	d.apply(l)
	return d
}

// apply writes that must be such as may be recorded.
func (d *disk) apply(l []api.Write) {
	d.t.Helper()
	if !record.May(d.g, l) || view.Apply(d.words, l) != api.OK {
		d.t.Fatalf("%v may not be", l)
	}
}

// call does the next call of session 0, whose result must be that, and acknowledges it.
func (d *disk) call(r req, want api.Result) {
	d.t.Helper()
	d.seq++
	before := slices.Clone(d.words)
	c, x, l, e := plan.Call(d.words, 0, 1, d.seq, r)
	if c != class.New || x != want || e != api.OK {
		d.t.Errorf("%v: %d, %v, %d, not %v", r, c, x, e, want)
	}
	if !slices.Equal(d.words, before) {
		d.t.Fatalf("%v: words are turned", r)
	}
	if x.Err != api.OK {
		d.slotAlone(l)
	}
	d.apply(l)
	c, x, l, e = plan.Call(d.words, 0, 1, d.seq, r)
	if c != class.Done || x != want || len(l) != 0 || e != api.OK {
		d.t.Errorf("%v again: %d, %v, %v, %d", r, c, x, l, e)
	}
	mark, l, e := plan.Ack(d.words, 0, 1, d.seq)
	if mark != d.seq || e != api.OK {
		d.t.Errorf("Ack: %d, %d", mark, e)
	}
	d.apply(l)
}

// slotAlone: are writes those of the slot of the last call?
func (d *disk) slotAlone(l []api.Write) {
	d.t.Helper()
	for _, w := range l {
		if k, i, j, _ := layout.Where(d.g, w.At); k != layout.Slot || i != 0 || j != int(d.seq%4) {
			d.t.Errorf("the word %d is put", w.At)
		}
	}
}

// P21.2, P21.3: the chapter's example.
func TestExample(t *testing.T) {
	d := newDisk(t, g)
	open := req{Kind: api.ReqOpen, Path: "/f", Flags: api.Create}
	c, x, l, e := plan.Call(d.words, 0, 1, 1, open)
	if c != class.New || x != (api.Result{B: 2}) || e != api.OK {
		t.Errorf("open: %d, %v, %d", c, x, e)
	}
	d.apply(l)
	c, x, l, e = plan.Call(d.words, 0, 1, 1, open)
	if c != class.Done || x != (api.Result{B: 2}) || len(l) != 0 || e != api.OK {
		t.Errorf("open again: %d, %v, %v, %d", c, x, l, e)
	}
	c, x, l, e = plan.Call(d.words, 0, 1, 2, req{Kind: api.ReqMkdir, Path: "/f"})
	if c != class.New || x != (api.Result{Err: api.ErrExist}) || e != api.OK || !slices.Equal(l, []api.Write{{At: 41, Value: 9}, {At: 40, Value: 2}}) {
		t.Errorf("mkdir: %d, %v, %v, %d", c, x, l, e)
	}
}

// P21.1: each kind, one behind the other.
func TestKinds(t *testing.T) {
	d := newDisk(t, g)
	ok := func(a, b uint64, data string) api.Result { return api.Result{A: a, B: b, Data: data} }
	err := func(e api.Errno) api.Result { return api.Result{Err: e} }
	d.call(req{Kind: api.ReqMkdir, Path: "/d"}, ok(2, 0, ""))
	d.call(req{Kind: api.ReqOpen, Path: "/d/f"}, err(api.ErrNone))
	d.call(req{Kind: api.ReqOpen, Path: "/d/f", Flags: api.Only | api.Empty}, err(api.ErrNone))
	d.call(req{Kind: api.ReqOpen, Path: "/d/f", Flags: api.Create}, ok(0, 3, ""))
	d.call(req{Kind: api.ReqOpen, Path: "/d/f", Flags: api.Create | api.Only}, err(api.ErrExist))
	d.call(req{Kind: api.ReqOpen, Path: "/d", Flags: api.Only}, err(api.ErrExist))
	d.call(req{Kind: api.ReqOpen, Path: "/d", Flags: api.Empty}, err(api.ErrIsDir))
	d.call(req{Kind: api.ReqOpen, Path: "/x/y", Flags: api.Create}, err(api.ErrNone))
	d.call(req{Kind: api.ReqOpen, Path: "/", Flags: api.Create}, err(api.ErrIsDir))
	d.call(req{Kind: api.ReqOpen, Path: "x", Flags: api.Create}, err(api.ErrName))
	d.call(req{Kind: api.ReqOpen, Path: "/d/f/x", Flags: api.Create}, err(api.ErrNoDir))
	d.call(req{Kind: api.ReqWrite, Fd: 0, Data: "abcdef"}, ok(6, 6, ""))
	d.call(req{Kind: api.ReqWrite, Fd: 0}, ok(0, 6, ""))
	d.call(req{Kind: api.ReqWrite, Fd: 1, Data: "x"}, err(api.ErrFd))
	d.call(req{Kind: api.ReqSeek, Fd: 0, At: 2}, ok(2, 0, ""))
	d.call(req{Kind: api.ReqRead, Fd: 0, Size: 3}, ok(3, 5, "cde"))
	d.call(req{Kind: api.ReqRead, Fd: 0, Size: 64}, ok(1, 6, "f"))
	d.call(req{Kind: api.ReqRead, Fd: 0, Size: 64}, ok(0, 6, ""))
	d.call(req{Kind: api.ReqRead, Fd: 0, Size: 65}, err(api.ErrRange))
	d.call(req{Kind: api.ReqRead, Fd: 4, Size: 65}, err(api.ErrFd))
	d.call(req{Kind: api.ReqSeek, Fd: 0, At: 768}, ok(768, 0, ""))
	d.call(req{Kind: api.ReqSeek, Fd: 0, At: 769}, err(api.ErrRange))
	d.call(req{Kind: api.ReqWrite, Fd: 0, Data: "x"}, err(api.ErrRange))
	d.call(req{Kind: api.ReqRead, Fd: 0, Size: 9}, ok(0, 768, ""))
	d.call(req{Kind: api.ReqTruncate, Fd: 0, At: 700}, ok(700, 0, ""))
	d.call(req{Kind: api.ReqTruncate, Fd: 0, At: 769}, err(api.ErrRange))
	d.call(req{Kind: api.ReqTruncate, Fd: 9, At: 769}, err(api.ErrFd))
	d.call(req{Kind: api.ReqStat, Path: "/d/f"}, ok(1+4, 700, ""))
	d.call(req{Kind: api.ReqStat, Path: "/"}, ok(2+4, 0, ""))
	d.call(req{Kind: api.ReqStat, Path: ""}, err(api.ErrName))
	d.call(req{Kind: api.ReqLink, Path: "/d/f", To: "/a"}, ok(0, 0, ""))
	d.call(req{Kind: api.ReqStat, Path: "/a"}, ok(1+8, 700, ""))
	d.call(req{Kind: api.ReqLink, Path: "/d", To: "/b"}, err(api.ErrIsDir))
	d.call(req{Kind: api.ReqReaddir, Path: "/", At: 0}, ok(3, 2, "a"))
	d.call(req{Kind: api.ReqReaddir, Path: "/", At: 1}, ok(2, 2, "d"))
	d.call(req{Kind: api.ReqReaddir, Path: "/", At: 2}, err(api.ErrNone))
	d.call(req{Kind: api.ReqReaddir, Path: "/", At: math.MaxUint64}, err(api.ErrNone))
	d.call(req{Kind: api.ReqReaddir, Path: "/a"}, err(api.ErrNoDir))
	d.call(req{Kind: api.ReqRename, Path: "/d", To: "/d/x"}, err(api.ErrLoop))
	d.call(req{Kind: api.ReqRename, Path: "/d/f", To: "/g"}, ok(0, 0, ""))
	d.call(req{Kind: api.ReqRmdir, Path: "/g"}, err(api.ErrNoDir))
	d.call(req{Kind: api.ReqUnlink, Path: "/d"}, err(api.ErrIsDir))
	d.call(req{Kind: api.ReqRmdir, Path: "/d"}, ok(0, 0, ""))
	d.call(req{Kind: api.ReqOpen, Path: "/g", Flags: api.Empty}, ok(1, 3, ""))
	d.call(req{Kind: api.ReqStat, Path: "/g"}, ok(1+8, 0, ""))
	d.call(req{Kind: api.ReqUnlink, Path: "/g"}, ok(0, 0, ""))
	d.call(req{Kind: api.ReqUnlink, Path: "/a"}, ok(0, 0, ""))
	d.call(req{Kind: api.ReqOpen, Path: "/h", Flags: api.Create}, ok(2, 2, ""))
	d.call(req{Kind: api.ReqClose, Fd: 0}, ok(0, 0, ""))
	d.call(req{Kind: api.ReqClose, Fd: 0}, err(api.ErrFd))
	d.call(req{Kind: api.ReqClose, Fd: 1}, ok(0, 0, ""))
	d.call(req{Kind: api.ReqMkdir, Path: "/i"}, ok(3, 0, ""))
	for k := range uint64(2) {
		d.call(req{Kind: api.ReqOpen, Path: "/h", Flags: api.Create}, ok(k, 2, ""))
	}
	d.call(req{Kind: api.ReqOpen, Path: "/h"}, ok(3, 2, ""))
	d.call(req{Kind: api.ReqOpen, Path: "/h"}, err(api.ErrFds))
	d.call(req{Kind: api.ReqOpen, Path: "/j", Flags: api.Create}, err(api.ErrFds))
	d.call(req{Kind: api.ReqStat, Path: "/j"}, err(api.ErrNone))
}

// P21.1: names rise byte by byte, whatever places they have.
func TestReaddirRises(t *testing.T) {
	d := newDisk(t, layout.Geometry{Workers: 1, Inodes: 20, Blocks: 60})
	names := []string{"b", "B", "aa", "a", "\xff", "z", "\x01", "ab", "a\xff", "0", "é", "Z"}
	for i, s := range names {
		d.call(req{Kind: api.ReqMkdir, Path: "/" + s}, api.Result{A: uint64(2 + i)})
	}
	sorted := slices.Sorted(slices.Values(names))
	for i, s := range sorted {
		n := uint64(2 + slices.Index(names, s))
		d.call(req{Kind: api.ReqReaddir, Path: "/", At: uint64(i)}, api.Result{A: n, B: 12, Data: s})
	}
	d.call(req{Kind: api.ReqMkdir, Path: "/more"}, api.Result{Err: api.ErrDir})
}

// P21.1: errors of Do itself, in their order; what was put ahead of an error stays.
func TestDo(t *testing.T) {
	words := layout.Format(g)
	may, not := req{Kind: api.ReqStat, Path: "/"}, req{Kind: api.ReqStat, Fd: 1}
	for _, c := range []struct {
		v    *view.View
		g    layout.Geometry
		i    int
		r    req
		want api.Errno
	}{
		{nil, layout.Geometry{}, 9, not, api.ErrNil}, {view.New(nil), g, 0, not, api.ErrArg}, {view.New(nil), layout.Geometry{}, 0, may, api.ErrArg}, {view.New(nil), g, 4, may, api.ErrArg},
		{view.New(words), g, -1, may, api.ErrArg}, {view.New(words), g, math.MinInt, may, api.ErrArg}, {view.New(words), g, 0, req{}, api.ErrArg}, {view.New(words), g, 0, req{Kind: 14}, api.ErrArg},
		{view.New(words[:len(words)-1]), g, 3, may, api.ErrRange}, {view.New(words), g, 3, may, api.OK},
	} {
		want := api.Result{Err: c.want}
		if c.want == api.OK {
			want = api.Result{A: 6}
		}
		if x := plan.Do(c.v, c.g, c.i, c.r); x != want {
			t.Errorf("%v, %d, %v: %v, not %v", c.g, c.i, c.r, x, want)
		}
	}
	h := layout.Geometry{Workers: 1, Inodes: 9, Blocks: 2}
	v := view.New(layout.Format(h))
	v.Put(layout.BlockMapAt(h), 3)
	if x := plan.Do(v, h, 0, req{Kind: api.ReqMkdir, Path: "/a"}); x != (api.Result{Err: api.ErrSpace}) || v.Get(layout.InodeMapAt(h)) != 7 {
		t.Errorf("want of room: %v", x)
	}
	v = view.New(words)
	for i := range api.MaxWrites {
		v.Put(layout.AreaAt(g, 0)+i, 0)
	}
	if x := plan.Do(v, g, 0, req{Kind: api.ReqMkdir, Path: "/a"}); x != (api.Result{Err: api.ErrMany}) {
		t.Errorf("a view that takes no more: %v", x)
	}
	// Without a session that is open: Do asks for none.
	v = view.New(words)
	if x := plan.Do(v, g, 2, req{Kind: api.ReqOpen, Path: "/a", Flags: api.Create}); x != (api.Result{B: 2}) {
		t.Errorf("open: %v", x)
	}
	if x, e := fd.Get(v, g, 2, 0); x != (fd.Desc{Inode: 2}) || e != api.OK {
		t.Errorf("the descriptor: %v, %d", x, e)
	}
}

// P21.2: of errors, and of classes but New, nothing is written.
func TestCallRefused(t *testing.T) {
	d := newDisk(t, g)
	d.call(req{Kind: api.ReqMkdir, Path: "/a"}, api.Result{A: 2})
	d.call(req{Kind: api.ReqMkdir, Path: "/b"}, api.Result{A: 3})
	heads, slots := slices.Clone(d.words), slices.Clone(d.words)
	heads[layout.SessionAt(0)] = 2
	slots[layout.SlotAt(0, 3)], slots[layout.SlotAt(0, 3)+1] = 3, 99
	may, not := req{Kind: api.ReqMkdir, Path: "/c"}, req{}
	for _, c := range []struct {
		words    []uint64
		i        int
		gen, seq uint64
		r        req
		class    class.Class
		want     api.Errno
	}{
		{nil, 9, 1, 0, not, class.New, api.ErrBytes}, {d.words[:100], 0, 1, 3, may, class.New, api.ErrBytes},
		{d.words, 0, 1, 3, not, class.New, api.ErrArg}, {d.words, 0, 1, 1, not, class.New, api.ErrArg}, {d.words, 4, 1, 3, may, class.New, api.ErrArg}, {d.words, 0, 1, 0, may, class.New, api.ErrArg}, {d.words, 0, 1, api.MaxSeq + 1, may, class.New, api.ErrArg},
		{heads, 0, 1, 3, may, class.New, api.ErrBytes}, {slots, 0, 1, 3, may, class.New, api.ErrBytes},
		{d.words, 0, 2, 3, may, class.New, api.ErrClosed}, {d.words, 1, 1, 3, may, class.New, api.ErrClosed},
		{d.words, 0, 1, 1, may, class.Stale, api.OK}, {d.words, 0, 1, 2, may, class.Stale, api.OK}, {d.words, 0, 1, 7, may, class.Gap, api.OK},
	} {
		if cl, x, l, e := plan.Call(c.words, c.i, c.gen, c.seq, c.r); cl != c.class || x != (api.Result{}) || len(l) != 0 || e != c.want {
			t.Errorf("%d, %d, %d, %v: %d, %v, %v, %d, not %d, %d", c.i, c.gen, c.seq, c.r, cl, x, l, e, c.class, c.want)
		}
	}
	if cl, x, l, e := plan.Call(d.words, 0, 1, 6, may); cl != class.New || x.A != 4 || len(l) == 0 || e != api.OK {
		t.Errorf("the last of the window: %d, %v, %d", cl, x, e)
	}
}

// P21.2: of a call that tells an Err all that was put is dropped, and its slot alone is written.
func TestErrDrops(t *testing.T) {
	h := layout.Geometry{Workers: 1, Inodes: 9, Blocks: 2}
	d := newDisk(t, h)
	d.words[layout.BlockMapAt(h)] = 3
	c, x, l, e := plan.Call(d.words, 0, 1, 1, req{Kind: api.ReqMkdir, Path: "/a"})
	if c != class.New || x != (api.Result{Err: api.ErrSpace}) || e != api.OK || !slices.Equal(l, []api.Write{{At: 29, Value: 7}, {At: 28, Value: 1}}) {
		t.Errorf("%d, %v, %v, %d", c, x, l, e)
	}
}

// P21.1: errors of what a request does on a device that is spoilt, or has no room: the first one ends it.
func TestFirstErrorEnds(t *testing.T) {
	h := layout.Geometry{Workers: 1, Inodes: 9, Blocks: 4}
	d := newDisk(t, h)
	d.call(req{Kind: api.ReqOpen, Path: "/f", Flags: api.Create}, api.Result{B: 2})
	d.call(req{Kind: api.ReqWrite, Data: strings.Repeat("x", 128)}, api.Result{Err: api.ErrSpace})
	d.call(req{Kind: api.ReqSeek}, api.Result{})
	node := layout.InodeAt(h, 2)
	d.words[node+inode.Size], d.words[node+inode.Chain] = 768, 3
	d.words[layout.BlockAt(h, 3)] = 4
	d.call(req{Kind: api.ReqSeek, At: 256}, api.Result{A: 256})
	d.call(req{Kind: api.ReqRead, Size: 9}, api.Result{Err: api.ErrBytes})
	d.call(req{Kind: api.ReqWrite, Data: "x"}, api.Result{Err: api.ErrBytes})
	d.call(req{Kind: api.ReqTruncate}, api.Result{Err: api.ErrBytes})
	d.call(req{Kind: api.ReqOpen, Path: "/f", Flags: api.Empty}, api.Result{Err: api.ErrBytes})
	d.call(req{Kind: api.ReqOpen, Path: "/f"}, api.Result{A: 1, B: 2})
}

// P21.3: Open, Close and Ack.
func TestSessions(t *testing.T) {
	d := newDisk(t, g)
	open := func(gen uint64, want class.Class, writes int) {
		t.Helper()
		c, l, e := plan.Open(d.words, 0, gen)
		if c != want || len(l) != writes || e != api.OK {
			t.Errorf("Open %d: %d, %v, %d", gen, c, l, e)
		}
		d.apply(l)
	}
	end := func(gen uint64, want class.Class, writes int) {
		t.Helper()
		c, l, e := plan.Close(d.words, 0, gen)
		if c != want || len(l) != writes || e != api.OK {
			t.Errorf("Close %d: %d, %v, %d", gen, c, l, e)
		}
		d.apply(l)
	}
	open(1, class.Done, 0)
	open(2, class.Gap, 0)
	end(2, class.Gap, 0)
	d.call(req{Kind: api.ReqOpen, Path: "/f", Flags: api.Create}, api.Result{B: 2})
	d.call(req{Kind: api.ReqOpen, Path: "/f"}, api.Result{A: 1, B: 2})
	d.call(req{Kind: api.ReqUnlink, Path: "/f"}, api.Result{})
	end(2, class.Gap, 0) // what is open stays so
	end(1, class.New, 6) // the state, two descriptors, the inode's kind and opens, the map
	end(1, class.Done, 0)
	open(1, class.Stale, 0)
	if _, e := inode.Get(view.New(d.words), g, 2); e != api.ErrBytes {
		t.Errorf("what was open alone is there: %d", e)
	}
	if _, _, _, e := plan.Call(d.words, 0, 1, 4, req{Kind: api.ReqStat, Path: "/"}); e != api.ErrClosed {
		t.Errorf("a call of a closed session: %d", e)
	}
	open(2, class.New, 6) // the state, the generation, the mark, three slots
	if h, _ := slot.Get(view.New(d.words), 0); h != (slot.Head{Open: true, Gen: 2}) {
		t.Errorf("%v", h)
	}
}

// P21.3: errors of Open, Close and Ack: nothing is written.
func TestSessionsRefused(t *testing.T) {
	d := newDisk(t, g)
	d.call(req{Kind: api.ReqOpen, Path: "/f", Flags: api.Create}, api.Result{B: 2})
	spoilt := slices.Clone(d.words)
	spoilt[layout.DescriptorAt(0, 0)] = 99
	for _, c := range []struct {
		words             []uint64
		i                 int
		n                 uint64
		open, close_, ack api.Errno
	}{
		{nil, 9, 0, api.ErrBytes, api.ErrBytes, api.ErrBytes},
		{d.words, 4, 1, api.ErrArg, api.ErrArg, api.ErrArg},
		{d.words, 0, api.MaxSeq + 1, api.ErrArg, api.ErrArg, api.ErrArg},
		{spoilt, 0, 1, api.OK, api.ErrBytes, api.OK},
	} {
		cl, l, e := plan.Open(c.words, c.i, c.n)
		if e != c.open || len(l) != 0 || e != api.OK && cl != class.New {
			t.Errorf("Open %d, %d: %d, %v, %d", c.i, c.n, cl, l, e)
		}
		cl, l, e = plan.Close(c.words, c.i, c.n)
		if e != c.close_ || len(l) != 0 || cl != class.New {
			t.Errorf("Close %d, %d: %d, %v, %d", c.i, c.n, cl, l, e)
		}
		mark, l, e := plan.Ack(c.words, c.i, 1, c.n)
		if e != c.ack || len(l) != 0 || e != api.OK && mark != 0 {
			t.Errorf("Ack %d, %d: %d, %v, %d", c.i, c.n, mark, l, e)
		}
	}
	if mark, l, e := plan.Ack(d.words, 0, 2, 1); mark != 0 || len(l) != 0 || e != api.ErrClosed {
		t.Errorf("Ack of another generation: %d, %d", mark, e)
	}
	if mark, l, e := plan.Ack(d.words, 0, 1, 9); mark != 1 || len(l) != 0 || e != api.OK {
		t.Errorf("Ack that does not rise: %d, %v, %d", mark, l, e)
	}
}

// random requests of a few names, texts and places, wrong ones too.
func random(next func(int) int) req {
	paths := []string{"/a", "/b", "/c", "/a/a", "/a/b", "/b/a", "/a/a/a", "/c/c", "/", "a", "", "/a/", "/a/b/c", "/.."}
	r := req{Kind: uint8(1 + next(13))}
	switch r.Kind {
	case api.ReqOpen:
		r.Path, r.Flags = paths[next(len(paths))], uint8(next(8))
	case api.ReqLink, api.ReqRename:
		r.Path, r.To = paths[next(len(paths))], paths[next(len(paths))]
	case api.ReqReaddir:
		r.Path, r.At = paths[next(len(paths))], uint64(next(4))
	case api.ReqStat, api.ReqMkdir, api.ReqRmdir, api.ReqUnlink:
		r.Path = paths[next(len(paths))]
	default:
		r.Fd = uint64(next(5))
	}
	switch r.Kind {
	case api.ReqRead:
		r.Size = uint64(next(66))
	case api.ReqWrite:
		r.Data = strings.Repeat(string(rune('a'+next(26))), next(129))
	case api.ReqSeek, api.ReqTruncate:
		r.At = uint64(next(800))
	}
	return r
}

// P21.1, P21.4, W2: results, and what is there, are those of a plain tree to which the calls were done.
func TestPlainTree(t *testing.T) {
	for seed := range uint64(12) {
		state := seed + 100
		next := func(n int) int {
			state = state*6364136223846793005 + 1442695040888963407
			return int((state >> 33) % uint64(n))
		}
		h := layout.Geometry{Workers: 1, Inodes: 6 + 2*int(seed), Blocks: 400}
		d, p := newDisk(t, h), newPlain(h.Inodes)
		gen := uint64(1)
		for range 1500 {
			r := random(next)
			if next(40) == 0 {
				d.reopen(p, &gen)
			}
			d.seq++
			want := p.do(0, r)
			c, x, l, e := plan.Call(d.words, 0, gen, d.seq, r)
			if c != class.New || x != want || e != api.OK {
				t.Fatalf("%v: %d, %v, %d, not %v", r, c, x, e, want)
			}
			if x.Err != api.OK {
				d.slotAlone(l)
			}
			d.apply(l)
			_, l, e = plan.Ack(d.words, 0, gen, d.seq)
			if e != api.OK {
				t.Fatal("Ack: ", e)
			}
			d.apply(l)
		}
	}
}

// reopen the session: its descriptors are closed, and its numbers begin anew.
func (d *disk) reopen(p *plain, gen *uint64) {
	d.t.Helper()
	c, l, e := plan.Close(d.words, 0, *gen)
	if c != class.New || e != api.OK {
		d.t.Fatal("Close: ", c, e)
	}
	d.apply(l)
	p.closeAll(0)
	*gen++
	c, l, e = plan.Open(d.words, 0, *gen)
	if c != class.New || e != api.OK {
		d.t.Fatal("Open: ", c, e)
	}
	d.apply(l)
	d.seq = 0
}

// R1: whatever words a device has, each call ends, and what it writes may be recorded.
func TestAnyWords(t *testing.T) {
	state := uint64(1)
	next := func(n int) int {
		state = state*6364136223846793005 + 1442695040888963407
		return int((state >> 33) % uint64(n))
	}
	whole := newDisk(t, g)
	for range 60 {
		_, _, l, _ := plan.Call(whole.words, 0, 1, whole.seq+1, random(next))
		whole.apply(l)
		whole.seq++
		_, l, _ = plan.Ack(whole.words, 0, 1, whole.seq)
		whole.apply(l)
	}
	odd := []uint64{0, 1, 2, 3, 5, 9, 40, 60, 768, 1 << 63, math.MaxUint64}
	for range 4000 {
		words := slices.Clone(whole.words)
		for range 1 + next(12) {
			at := layout.InodeMapAt(g) + next(layout.Words(g)-layout.InodeMapAt(g))
			if next(4) == 0 {
				at = layout.DescriptorAt(0, next(4)) + next(2)
			}
			words[at] = odd[next(len(odd))]
		}
		r := random(next)
		c, x, l, e := plan.Call(words, 0, 1, whole.seq+1, r)
		if c != class.New || e != api.OK || !slot.May(x) || !record.May(g, l) {
			t.Fatalf("%v: %d, %v, %v, %d", r, c, x, l, e)
		}
		if _, l, e := plan.Close(words, 0, 1); !record.May(g, l) || e != api.OK && len(l) > 0 {
			t.Fatalf("Close: %v, %d", l, e)
		}
	}
}

package world_test

import (
	"math"
	"slices"
	"testing"

	"grommet/api"
	"grommet/class"
	"grommet/commit"
	"grommet/layout"
	"grommet/worker"
	"grommet/world"
)

type (
	req  = api.Request
	job  = worker.Job
	act  = world.Act
	told = world.Told
)

// one: a geometry of one worker.
var one = layout.Geometry{Workers: 1, Inodes: 9, Blocks: 30}

func fresh(t *testing.T, g layout.Geometry) *world.World {
	t.Helper()
	w, e := world.New(g)
	if e != api.OK || w == nil {
		t.Fatal("no world: ", e)
	}
	return w
}

// does holds what an act tells against what it must.
func does(t *testing.T, w *world.World, a act, want told) {
	t.Helper()
	if got := w.Do(a); got != want {
		t.Errorf("%v: %v, not %v", a, got, want)
	}
}

// open of the session 0.
func open() job {
	return job{Kind: worker.Open, Gen: 1}
}

func call(seq uint64, r req) job {
	return job{Kind: worker.Call, Gen: 1, Seq: seq, R: r}
}

// P27.1, P27.2: the chapter's example.
func TestExample(t *testing.T) {
	for _, c := range []struct {
		steps  int
		serves bool
		query  told
	}{{9, true, told{Err: api.ErrClosed}}, {12, true, told{Err: api.ErrClosed}}, {13, false, told{}}} {
		w := fresh(t, one)
		does(t, w, act{Kind: world.Submit, J: open()}, told{N: 1})
		for i := range c.steps {
			want := []worker.Phase{1, 3, 4, 4, 4, 4, 4, 4, 5, 5, 6, 6, 6}[i]
			does(t, w, act{Kind: world.Step}, told{N: int(want)})
		}
		does(t, w, act{Kind: world.Crash}, told{})
		if w.Serving() != c.serves {
			t.Errorf("%d steps: it serves: %v", c.steps, w.Serving())
		}
		if !c.serves {
			does(t, w, act{Kind: world.Rest}, told{N: 7})
		}
		does(t, w, act{Kind: world.Query, J: job{Gen: 1, Seq: 1}}, c.query)
	}
}

// P27.1: New.
func TestNew(t *testing.T) {
	for _, g := range []layout.Geometry{{}, {Workers: 5, Inodes: 9, Blocks: 30}, {Workers: 1, Inodes: 1, Blocks: 30}} {
		if w, e := world.New(g); w != nil || e != api.ErrArg {
			t.Errorf("%v: %d", g, e)
		}
	}
	for _, g := range []layout.Geometry{one, {Workers: 4, Inodes: 64, Blocks: 512}, {Workers: 3, Inodes: 7, Blocks: 13}} {
		w := fresh(t, g)
		if !w.Serving() || w.Doing(0) != 0 || !slices.Equal(w.Sure(), layout.Format(g)) || !slices.Equal(w.Seen(), layout.Format(g)) {
			t.Errorf("%v: it is not new", g)
		}
		clear(w.Sure())
		clear(w.Seen())
		if !slices.Equal(w.Sure(), layout.Format(g)) || !slices.Equal(w.Seen(), layout.Format(g)) {
			t.Errorf("%v: what was told is kept", g)
		}
	}
}

// P27.2: each act, as a world serves, or does not; errors are told alone.
func TestActs(t *testing.T) {
	w := fresh(t, layout.Geometry{Workers: 2, Inodes: 9, Blocks: 30})
	for _, k := range []world.Kind{0, 9, 255} {
		does(t, w, act{Kind: k}, told{Err: api.ErrArg})
	}
	does(t, w, act{Kind: world.Mount}, told{Err: api.ErrState})
	does(t, w, act{Kind: world.Submit}, told{Err: api.ErrArg})
	does(t, w, act{Kind: world.Step}, told{Err: api.ErrNone})
	does(t, w, act{Kind: world.Step, N: 2}, told{Err: api.ErrArg})
	does(t, w, act{Kind: world.Reply, N: 1}, told{Err: api.ErrNone})
	does(t, w, act{Kind: world.Query, J: job{Session: 4}}, told{Err: api.ErrArg})
	does(t, w, act{Kind: world.Evict, N: -1}, told{Err: api.ErrRange})
	does(t, w, act{Kind: world.Evict, N: math.MaxInt}, told{Err: api.ErrRange})
	does(t, w, act{Kind: world.Evict}, told{})
	does(t, w, act{Kind: world.Rest}, told{})
	does(t, w, act{Kind: world.Submit, J: open()}, told{N: 1})
	does(t, w, act{Kind: world.Query, J: open()}, told{Err: api.ErrBusy})
	does(t, w, act{Kind: world.Step, N: 1}, told{N: int(worker.Locking)})
	if w.Doing(1) != 1 || w.Doing(0) != 0 || w.Doing(-1) != 0 || w.Doing(2) != 0 {
		t.Errorf("the workers do %d, %d", w.Doing(0), w.Doing(1))
	}
	does(t, w, act{Kind: world.Reply, N: 1}, told{Err: api.ErrBusy})
	does(t, w, act{Kind: world.Rest}, told{N: 20})
	does(t, w, act{Kind: world.Reply, N: 1}, told{})
	does(t, w, act{Kind: world.Submit, J: call(1, req{Kind: api.ReqMkdir, Path: "/d"})}, told{N: 2})
	w.Do(act{Kind: world.Rest})
	does(t, w, act{Kind: world.Query, J: job{Gen: 1, Seq: 1}}, told{Class: class.Done, R: api.Result{A: 2}})
	does(t, w, act{Kind: world.Reply, N: 2}, told{Reply: worker.Reply{R: api.Result{A: 2}}})
	does(t, w, act{Kind: world.Submit, J: call(1, req{Kind: api.ReqMkdir, Path: "/d"})}, told{N: 3})
	w.Do(act{Kind: world.Rest})
	does(t, w, act{Kind: world.Reply, N: 3}, told{Reply: worker.Reply{Class: class.Done, R: api.Result{A: 2}}})
}

// toMark steps a job up to so many steps of its Marking.
func toMark(w *world.World, marks int) {
	for marks > 0 {
		if w.Do(act{Kind: world.Step}).N == int(worker.Marking) {
			marks--
		}
	}
}

// P27.1, P27.2: a loss of power: what may be done till the mount is over, and behind it.
func TestMount(t *testing.T) {
	w := fresh(t, one)
	does(t, w, act{Kind: world.Submit, J: open()}, told{N: 1})
	does(t, w, act{Kind: world.Submit, J: call(1, req{Kind: api.ReqMkdir, Path: "/d"})}, told{N: 2})
	toMark(w, 3)
	does(t, w, act{Kind: world.Crash}, told{})
	for _, k := range []world.Kind{world.Submit, world.Step, world.Reply, world.Query} {
		does(t, w, act{Kind: k, J: open()}, told{Err: api.ErrState})
	}
	if w.Serving() || w.Doing(0) != 0 {
		t.Error("it serves")
	}
	does(t, w, act{Kind: world.Evict}, told{})
	for i, p := range []commit.Phase{commit.Applying, commit.Applying, commit.Settling, commit.Settling, commit.Clearing, commit.Clearing, commit.Clearing} {
		if w.Serving() {
			t.Errorf("it serves ahead of step %d", i)
		}
		does(t, w, act{Kind: world.Mount}, told{N: int(p)})
	}
	does(t, w, act{Kind: world.Mount}, told{Err: api.ErrState})
	does(t, w, act{Kind: world.Reply, N: 1}, told{Err: api.ErrNone})
	does(t, w, act{Kind: world.Step}, told{Err: api.ErrNone}) // what waited is gone
	does(t, w, act{Kind: world.Submit, J: open()}, told{N: 1})
	w.Do(act{Kind: world.Rest})
	does(t, w, act{Kind: world.Reply, N: 1}, told{Reply: worker.Reply{Class: class.Done}})
}

// P27.1: picks say what is left of loose words, and are not turned.
func TestPicks(t *testing.T) {
	for _, c := range []struct {
		picks  []uint8
		serves bool
	}{{nil, true}, {[]uint8{0}, true}, {[]uint8{1}, true}, {[]uint8{2}, false}, {[]uint8{0, 2, 2}, true}, {[]uint8{5}, false}} {
		w := fresh(t, one)
		w.Do(act{Kind: world.Submit, J: open()})
		toMark(w, 1) // the commit word is stored, and not flushed
		before := slices.Clone(c.picks)
		does(t, w, act{Kind: world.Crash, Picks: c.picks}, told{})
		if w.Serving() != c.serves || !slices.Equal(c.picks, before) {
			t.Errorf("%v: it serves: %v", c.picks, w.Serving())
		}
	}
	w := fresh(t, one)
	w.Do(act{Kind: world.Submit, J: open()})
	toMark(w, 1)
	does(t, w, act{Kind: world.Evict, N: layout.AreaAt(one, 0) / 8}, told{})
	does(t, w, act{Kind: world.Crash}, told{})
	if w.Serving() {
		t.Error("what was evicted is lost")
	}
	does(t, w, act{Kind: world.Crash}, told{}) // in the mount
	does(t, w, act{Kind: world.Mount}, told{N: int(commit.Applying)})
	does(t, w, act{Kind: world.Crash}, told{})
	does(t, w, act{Kind: world.Rest}, told{N: 7})
	does(t, w, act{Kind: world.Query, J: job{Gen: 1, Seq: 1}}, told{})
}

// P27.2: a Rest goes by turns, from the worker 0 on, and ends when nothing is left.
func TestRest(t *testing.T) {
	w := fresh(t, layout.Geometry{Workers: 3, Inodes: 9, Blocks: 30})
	for i := range 4 {
		does(t, w, act{Kind: world.Submit, J: job{Kind: worker.Open, Session: i, Gen: 1}}, told{N: i + 1})
	}
	does(t, w, act{Kind: world.Rest}, told{N: 84})
	for i := range 4 {
		does(t, w, act{Kind: world.Reply, N: i + 1}, told{})
	}
	does(t, w, act{Kind: world.Rest}, told{})
	// Of three that want one call the worker 0 is first, and those that wait step, too.
	for i := range 3 {
		does(t, w, act{Kind: world.Submit, J: call(1, req{Kind: api.ReqSeek, Fd: 9})}, told{N: 5 + i})
	}
	if n := w.Do(act{Kind: world.Rest}).N; n != 21+22+23 {
		t.Errorf("%d steps", n)
	}
	for i, want := range []class.Class{class.New, class.Done, class.Done} {
		does(t, w, act{Kind: world.Reply, N: 5 + i}, told{Reply: worker.Reply{Class: want, R: api.Result{Err: api.ErrFd}}})
	}
}

// R4, P27.2: of no world.
func TestNoWorld(t *testing.T) {
	var none *world.World
	for k := range world.Kind(10) {
		does(t, none, act{Kind: k}, told{Err: api.ErrNil})
	}
	if none.Serving() || none.Doing(0) != 0 || len(none.Sure()) != 0 || len(none.Seen()) != 0 {
		t.Error("of no world something is told")
	}
}

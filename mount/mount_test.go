package mount_test

import (
	"slices"
	"testing"

	"grommet/api"
	"grommet/commit"
	"grommet/layout"
	"grommet/mount"
	"grommet/pmem"
	"grommet/view"
)

var g = layout.Geometry{Workers: 3, Inodes: 4, Blocks: 30}

// blank device of so many words.
func blank(t *testing.T, words int) *pmem.Device {
	t.Helper()
	d, e := pmem.New(words)
	if e != api.OK {
		t.Fatal("no device: ", e)
	}
	return d
}

// fresh: a device that is formatted.
func fresh(t *testing.T) *pmem.Device {
	t.Helper()
	d := blank(t, layout.Words(g))
	if e := mount.Format(d, g); e != api.OK {
		t.Fatal("Format: ", e)
	}
	return d
}

// begun: so many steps of a worker's commit of writes.
func begun(t *testing.T, d *pmem.Device, w, steps int, l []api.Write) {
	t.Helper()
	r, e := commit.New(d, g, w)
	if e != api.OK || r.Begin(l) != api.OK {
		t.Fatal("no run: ", e)
	}
	for range steps {
		if _, e := r.Step(); e != api.OK {
			t.Fatal("a step: ", e)
		}
	}
}

// marked: how many steps a commit of so many writes has, up to the fence of its Marking.
func marked(writes int) int {
	words := 2 + 2*writes
	return words + (words+7)/8 + 1 + 3
}

// writes of a worker, in blocks of its own.
func writes(w, many int) []api.Write {
	var l []api.Write
	for i := range many {
		l = append(l, api.Write{At: layout.BlockAt(g, 10*w) + 5*i, Value: uint64(100*w + i + 1)})
	}
	return l
}

// to makes a mount, or the test ends.
func to(t *testing.T, d *pmem.Device) *mount.Mount {
	t.Helper()
	m, e := mount.New(d)
	if e != api.OK || m == nil {
		t.Fatal("no mount: ", e)
	}
	return m
}

// is holds where a mount is against what it must.
func is(t *testing.T, m *mount.Mount, w, left int) {
	t.Helper()
	if m.Worker() != w || m.Left() != left {
		t.Errorf("at the worker %d, %d steps left, not %d, %d", m.Worker(), m.Left(), w, left)
	}
}

// step holds the phase of the next step against what it must.
func step(t *testing.T, m *mount.Mount, want commit.Phase, error api.Errno) {
	t.Helper()
	if p, e := m.Step(); p != want || e != error {
		t.Errorf("a step: %d, %d, not %d, %d", p, e, want, error)
	}
}

// P24.1: Format.
func TestFormat(t *testing.T) {
	for _, more := range []int{0, 8, 80} {
		d := blank(t, layout.Words(g)+more)
		for at := range d.Words() {
			d.Store(at, 7)
			d.Evict(at / 8)
		}
		if e := mount.Format(d, g); e != api.OK {
			t.Fatal(e)
		}
		want := append(layout.Format(g), slices.Repeat([]uint64{7}, more)...)
		if !slices.Equal(d.Sure(), want) || !slices.Equal(d.Seen(), want) || d.Loose() != 0 {
			t.Errorf("%d words more: it is not formatted", more)
		}
	}
	d := blank(t, layout.Words(g)-8)
	for _, c := range []struct {
		d    *pmem.Device
		g    layout.Geometry
		want api.Errno
	}{{nil, layout.Geometry{}, api.ErrNil}, {d, layout.Geometry{}, api.ErrArg}, {d, layout.Geometry{Workers: 5, Inodes: 4, Blocks: 30}, api.ErrArg}, {d, g, api.ErrRange}} {
		if e := mount.Format(c.d, c.g); e != c.want {
			t.Errorf("%v: %d, not %d", c.g, e, c.want)
		}
	}
	if d.Loose() != 0 || slices.Max(d.Seen()) != 0 {
		t.Error("what is refused stores")
	}
}

// P24.1: a word that was flushed elsewhere is sure by the same Fence; what is loose elsewhere stays loose.
func TestFormatElsewhere(t *testing.T) {
	d := blank(t, layout.Words(g)+16)
	n := layout.Words(g)
	d.Store(n, 5)
	d.Flush(n / 8)
	d.Store(n+8, 6)
	if e := mount.Format(d, g); e != api.OK || d.Loose() != 1 || d.Sure()[n] != 5 || d.Sure()[n+8] != 0 {
		t.Errorf("%d, %d words are loose", e, d.Loose())
	}
}

// P24.2, P24.3: of a new device a mount has no step.
func TestNothingToDo(t *testing.T) {
	m := to(t, fresh(t))
	is(t, m, 3, 0)
	step(t, m, commit.Idle, api.ErrState)
	is(t, m, 3, 0)
	if m.Geometry() != g {
		t.Errorf("%v", m.Geometry())
	}
}

// P24.2: what is no device.
func TestNoDevice(t *testing.T) {
	if m, e := mount.New(nil); m != nil || e != api.ErrNil {
		t.Error("of nothing: ", e)
	}
	d := fresh(t)
	d.Store(0, 5)
	for _, d := range []*pmem.Device{blank(t, layout.Words(g)), blank(t, 8), d} {
		if m, e := mount.New(d); m != nil || e != api.ErrBytes {
			t.Error("of other words: ", e)
		}
	}
	d = blank(t, layout.Words(g)+8) // what is seen is a device, though nothing is sure
	for at, w := range layout.Format(g) {
		d.Store(at, w)
	}
	if m := to(t, d); m.Geometry() != g {
		t.Error("of what is seen alone")
	}
}

// P24.3: the chapter's example: one write behind its Marking.
func TestOneWrite(t *testing.T) {
	d := fresh(t)
	begun(t, d, 1, marked(1), writes(1, 1))
	m := to(t, d)
	for i, p := range []commit.Phase{commit.Applying, commit.Settling, commit.Settling, commit.Clearing, commit.Clearing, commit.Clearing} {
		is(t, m, 1, 6-i)
		step(t, m, p, api.OK)
	}
	is(t, m, 3, 0)
	step(t, m, commit.Idle, api.ErrState)
	want := layout.Format(g)
	view.Apply(want, writes(1, 1))
	if !slices.Equal(commit.Over(g, d.Sure()), want) || d.Loose() != 0 || d.Seen()[layout.AreaAt(g, 1)] != 0 {
		t.Error("it is not done")
	}
}

// P24.3: workers one behind the other; of those without a commit word nothing is done.
func TestWorkers(t *testing.T) {
	d := fresh(t)
	begun(t, d, 0, marked(2), writes(0, 2))
	begun(t, d, 1, marked(1)-3, writes(1, 1)) // without its mark
	begun(t, d, 2, marked(3)-2, writes(2, 3)) // with its mark, loose
	m := to(t, d)
	var at []int
	for m.Left() > 0 {
		at = append(at, m.Worker())
		if _, e := m.Step(); e != api.OK {
			t.Fatal(e)
		}
	}
	if want := append(slices.Repeat([]int{0}, 2+1+1+3), slices.Repeat([]int{2}, 3+2+1+3)...); !slices.Equal(at, want) {
		t.Errorf("%v, not %v", at, want)
	}
	is(t, m, 3, 0)
	want := layout.Format(g)
	view.Apply(want, writes(0, 2))
	view.Apply(want, writes(2, 3))
	if !slices.Equal(commit.Over(g, d.Seen()), want) || !slices.Equal(commit.Over(g, d.Sure()), want) {
		t.Error("other words")
	}
}

// P24.3: a commit word without its record is cleared.
func TestSpoiltMark(t *testing.T) {
	d := fresh(t)
	d.Store(layout.AreaAt(g, 1), 99)
	m := to(t, d)
	is(t, m, 1, 3)
	for range 3 {
		step(t, m, commit.Clearing, api.OK)
	}
	is(t, m, 3, 0)
	if !slices.Equal(d.Sure(), layout.Format(g)) {
		t.Error("more is turned")
	}
}

// R4, P24.3: of no mount.
func TestNoMount(t *testing.T) {
	var none *mount.Mount
	if p, e := none.Step(); p != commit.Idle || e != api.ErrNil {
		t.Error("step: ", p, e)
	}
	if none.Left() != 0 || none.Worker() != 0 || none.Geometry() != (layout.Geometry{}) {
		t.Error("of no mount something is told")
	}
}

// P24.4: whatever is lost in a mount, and whenever: what is sure, with what is committed, stays the same, and at the end is what is seen.
func TestLossesInMounts(t *testing.T) {
	seed := uint64(15)
	next := func(n int) int {
		seed = seed*6364136223846793005 + 1442695040888963407
		return int((seed >> 33) % uint64(n))
	}
	for range 400 {
		d := fresh(t)
		for w := range g.Workers {
			n := next(6)
			begun(t, d, w, next(marked(n)+n), writes(w, n))
		}
		lose(d, next)
		want := commit.Over(g, d.Sure())
		m := to(t, d)
		for losses := 0; m.Left() > 0; {
			if _, e := m.Step(); e != api.OK {
				t.Fatal(e)
			}
			if next(3) == 0 {
				d.Evict(next(d.Words() / 8))
			}
			if losses < 5 && next(6) == 0 {
				losses++
				lose(d, next)
				m = to(t, d)
			}
			if !slices.Equal(commit.Over(g, d.Sure()), want) || !slices.Equal(commit.Over(g, d.Seen()), want) {
				t.Fatal("it is not what it was")
			}
		}
		seen := d.Seen()
		for w := range g.Workers {
			if seen[layout.AreaAt(g, w)] != 0 {
				t.Fatal("a commit word is not 0")
			}
			clear(seen[layout.AreaAt(g, w):][:layout.AreaSize])
		}
		if !slices.Equal(seen, want) || !slices.Equal(d.Sure(), d.Seen()) {
			t.Fatal("at the end it is not what is seen, or not sure")
		}
	}
}

// lose the power.
func lose(d *pmem.Device, next func(int) int) {
	var picks []uint8
	for range d.Loose() {
		picks = append(picks, uint8(next(3)))
	}
	d.Crash(picks...)
}

package commit_test

import (
	"math"
	"slices"
	"testing"

	"grommet/api"
	"grommet/commit"
	"grommet/layout"
	"grommet/pmem"
	"grommet/record"
	"grommet/view"
)

var g = layout.Geometry{Workers: 2, Inodes: 5, Blocks: 20}

// device: a new one, formatted.
func device(t *testing.T) *pmem.Device {
	t.Helper()
	d, e := pmem.New(layout.Words(g))
	if e != api.OK {
		t.Fatal("no device: ", e)
	}
	for at, w := range layout.Format(g) {
		d.Store(at, w)
	}
	d.Crash(slices.Repeat([]uint8{2}, d.Words())...)
	return d
}

// run of a worker.
func run(t *testing.T, d *pmem.Device, w int) *commit.Run {
	t.Helper()
	r, e := commit.New(d, g, w)
	if e != api.OK || r == nil {
		t.Fatal("no run: ", e)
	}
	return r
}

// begun: a run that has these writes to do.
func begun(t *testing.T, d *pmem.Device, w int, l []api.Write) *commit.Run {
	t.Helper()
	r := run(t, d, w)
	if e := r.Begin(l); e != api.OK {
		t.Fatal("no beginning: ", e)
	}
	return r
}

// end does all steps that are left, and tells their phases.
func end(t *testing.T, r *commit.Run) []commit.Phase {
	t.Helper()
	var l []commit.Phase
	for r.Left() > 0 {
		want, left := r.Phase(), r.Left()
		p, e := r.Step()
		if e != api.OK || p != want || r.Left() != left-1 {
			t.Fatalf("a step of %d: %d, %d, then %d left", want, p, e, r.Left())
		}
		l = append(l, p)
	}
	return l
}

// phases: so many steps of each of the phases from Writing on.
func phases(from commit.Phase, many ...int) []commit.Phase {
	var l []commit.Phase
	for i, n := range many {
		l = append(l, slices.Repeat([]commit.Phase{from + commit.Phase(i)}, n)...)
	}
	return l
}

// P9.1: New.
func TestNew(t *testing.T) {
	whole := device(t)
	less, _ := pmem.New(layout.Words(g) - 8)
	more, _ := pmem.New(layout.Words(g) + 8)
	for _, c := range []struct {
		d    *pmem.Device
		g    layout.Geometry
		w    int
		want api.Errno
	}{
		{whole, g, 0, api.OK}, {whole, g, 1, api.OK}, {more, g, 1, api.OK}, {less, g, 0, api.ErrRange},
		{whole, g, 2, api.ErrArg}, {whole, g, -1, api.ErrArg}, {whole, g, math.MinInt, api.ErrArg}, {less, g, math.MaxInt, api.ErrArg}, {whole, layout.Geometry{}, 0, api.ErrArg},
		{nil, g, 0, api.ErrNil}, {nil, layout.Geometry{}, 7, api.ErrNil},
	} {
		r, e := commit.New(c.d, c.g, c.w)
		if e != c.want || (r == nil) != (e != api.OK) {
			t.Errorf("worker %d of %v: %d, not %d", c.w, c.g, e, c.want)
		}
		if r.Left() != 0 || r.Phase() != commit.Idle {
			t.Error("a new run has steps")
		}
	}
	if p, e := run(t, whole, 0).Step(); p != commit.Idle || e != api.ErrState {
		t.Errorf("a step of none: %d, %d", p, e)
	}
}

// P9.1, P9.2: how many steps there are of each phase.
func TestPhases(t *testing.T) {
	b := layout.BlockAt(g, 3)
	for _, c := range []struct {
		l    []api.Write
		want []int
	}{
		{[]api.Write{{At: b, Value: 7}}, []int{4, 2, 3, 1, 2, 3}},
		{nil, []int{2, 2, 3, 0, 1, 3}},
		{[]api.Write{{At: b + 8, Value: 7}, {At: b}, {At: b + 1}, {At: b + 7}, {At: b + 15}}, []int{12, 3, 3, 5, 3, 3}},
	} {
		d := device(t)
		r := begun(t, d, 1, c.l)
		if e := r.Begin(nil); e != api.ErrState {
			t.Errorf("begun twice: %d", e)
		}
		if is, e := r.Resume(); is || e != api.ErrState {
			t.Errorf("begun and resumed: %v, %d", is, e)
		}
		if got := end(t, r); !slices.Equal(got, phases(commit.Writing, c.want...)) {
			t.Errorf("%d writes: %v", len(c.l), got)
		}
		if p, e := r.Step(); p != commit.Idle || e != api.ErrState || r.Phase() != commit.Idle || r.Left() != 0 {
			t.Errorf("behind the last one: %d, %d", p, e)
		}
		if e := r.Begin(c.l); e != api.OK {
			t.Errorf("begun again: %d", e)
		}
	}
}

// P9.1: Begin of writes that may not be.
func TestBeginRefused(t *testing.T) {
	d := device(t)
	r := run(t, d, 0)
	for _, l := range [][]api.Write{{{At: -1}}, {{At: 0}}, {{At: layout.AreaAt(g, 1)}}, {{At: layout.Words(g)}}, {{At: 8}, {At: 8}}, make([]api.Write, 97)} {
		if e := r.Begin(l); e != api.ErrArg || r.Left() != 0 || r.Phase() != commit.Idle {
			t.Errorf("%v: %d", l, e)
		}
	}
	if d.Loose() != 0 {
		t.Error("what is refused stores")
	}
}

// byHand: the calls of the steps of writes, as the chapter lists them.
func byHand(d *pmem.Device, w int, l []api.Write) []func() {
	var out []func()
	store := func(at int, v uint64) { out = append(out, func() { d.Store(at, v) }) }
	flush := func(first, last int) {
		for line := first / 8; line <= last/8; line++ {
			out = append(out, func() { d.Flush(line) })
		}
		out = append(out, func() { d.Fence() })
	}
	area := layout.AreaAt(g, w)
	words, _ := record.Words(l)
	for i, v := range words {
		store(area+8+i, v)
	}
	flush(area+8, area+7+len(words))
	store(area, record.Mark(words))
	flush(area, area)
	lines := map[int]bool{}
	for _, x := range l {
		store(x.At, x.Value)
		lines[x.At/8] = true
	}
	for line := range d.Words() / 8 {
		if lines[line] {
			out = append(out, func() { d.Flush(line) })
		}
	}
	out = append(out, func() { d.Fence() })
	store(area, 0)
	flush(area, area)
	return out
}

// writes: some whose lines do not stand in their order.
func writes() []api.Write {
	b := layout.BlockAt(g, 3)
	return []api.Write{{At: b + 17, Value: 4}, {At: 9, Value: 1}, {At: b, Value: 2}, {At: layout.InodeAt(g, 4), Value: 3}, {At: b + 16, Value: 5}}
}

// P9.2: each step is the call that the chapter lists: whenever the power goes, and whatever is picked, the words are those that these calls leave.
func TestStepsAreCalls(t *testing.T) {
	many := len(byHand(device(t), 1, writes()))
	for n := range many + 1 {
		for _, pick := range []uint8{0, 1, 2} {
			d, want := device(t), device(t)
			r := begun(t, d, 1, writes())
			if r.Left() != many {
				t.Fatalf("%d steps, not %d", r.Left(), many)
			}
			calls := byHand(want, 1, writes())
			for i := range n {
				if _, e := r.Step(); e != api.OK {
					t.Fatal("a step: ", e)
				}
				calls[i]()
			}
			if !slices.Equal(d.Seen(), want.Seen()) || !slices.Equal(d.Sure(), want.Sure()) || d.Loose() != want.Loose() {
				t.Fatalf("behind %d steps: other words", n)
			}
			picks := slices.Repeat([]uint8{pick}, 60)
			d.Crash(picks...)
			want.Crash(picks...)
			if !slices.Equal(d.Seen(), want.Seen()) {
				t.Fatalf("behind %d steps, all picks %d: other words", n, pick)
			}
		}
	}
}

// P9.1: the list that was begun is not kept.
func TestListIsNotKept(t *testing.T) {
	d := device(t)
	l := writes()
	r := begun(t, d, 0, l)
	clear(l)
	end(t, r)
	want := layout.Format(g)
	view.Apply(want, writes())
	if !slices.Equal(commit.Over(g, d.Sure()), want) || d.Loose() != 0 {
		t.Error("the writes are others")
	}
}

// P9.1: Resume, of what is committed, of what is not, and of nothing.
func TestResume(t *testing.T) {
	for n := range 40 {
		d := device(t)
		r := begun(t, d, 1, writes())
		for range min(n, r.Left()) {
			r.Step()
		}
		word, _ := d.Load(layout.AreaAt(g, 1))
		again := run(t, d, 1)
		is, e := again.Resume()
		if e != api.OK || is != (word != 0) {
			t.Fatalf("behind %d steps: %v, %d", n, is, e)
		}
		if got := end(t, again); word != 0 && !slices.Equal(got, phases(commit.Applying, 5, 5, 3)) || word == 0 && len(got) != 0 {
			t.Fatalf("behind %d steps: %v", n, got)
		}
	}
}

// P9.1: Resume of a commit word that is none of its record: it is taken away alone.
func TestResumeSpoilt(t *testing.T) {
	words, _ := record.Words(writes())
	area := layout.AreaAt(g, 1)
	for what, spoil := range map[string]func(*pmem.Device){
		"another mark":        func(d *pmem.Device) { d.Store(area, record.Mark(words)+1<<20) },
		"a mark of no record": func(d *pmem.Device) { d.Store(area+8, 97) },
		"another value":       func(d *pmem.Device) { d.Store(area+8+2, 99) },
		"another place":       func(d *pmem.Device) { d.Store(area+8+1, 0) },
		"the lowest bits":     func(d *pmem.Device) { d.Store(area, record.Mark(words)&^1) },
	} {
		d := device(t)
		for i, w := range words {
			d.Store(area+8+i, w)
		}
		d.Store(area, record.Mark(words))
		spoil(d)
		before := d.Seen()
		r := run(t, d, 1)
		if is, e := r.Resume(); !is || e != api.OK {
			t.Errorf("%s: %v, %d", what, is, e)
		}
		if got := end(t, r); !slices.Equal(got, phases(commit.Clearing, 3)) {
			t.Errorf("%s: %v", what, got)
		}
		before[area] = 0
		if !slices.Equal(d.Seen(), before) {
			t.Errorf("%s: more is turned than the commit word", what)
		}
		if is, e := r.Resume(); is || e != api.OK || r.Left() != 0 {
			t.Errorf("%s: resumed again: %v, %d", what, is, e)
		}
	}
}

// P9.1: a record whose sum and mark are right, but whose writes may not be, is not committed.
func TestResumeOfWhatMayNotBe(t *testing.T) {
	d := device(t)
	words, _ := record.Words([]api.Write{{At: 0, Value: 5}})
	area := layout.AreaAt(g, 0)
	for i, w := range words {
		d.Store(area+8+i, w)
	}
	d.Store(area, record.Mark(words))
	r := run(t, d, 0)
	if is, e := r.Resume(); !is || e != api.OK || r.Phase() != commit.Clearing || r.Left() != 3 {
		t.Errorf("%v, %d, %d steps", is, e, r.Left())
	}
	if over := commit.Over(g, d.Seen()); over[0] != layout.Magic {
		t.Error("its writes are done")
	}
}

// P9.3: Over.
func TestOver(t *testing.T) {
	first, second := []api.Write{{At: 9, Value: 1}, {At: 10, Value: 2}}, []api.Write{{At: 10, Value: 3}, {At: 11, Value: 4}}
	d := device(t)
	for w, l := range [][]api.Write{first, second} {
		r := begun(t, d, w, l)
		for r.Phase() < commit.Applying {
			r.Step()
		}
	}
	want := layout.Format(g)
	want[9], want[10], want[11] = 1, 3, 4
	words := append(d.Sure(), 7, 8)
	before := slices.Clone(words)
	got := commit.Over(g, words)
	if !slices.Equal(got, append(slices.Clone(want), 7, 8)) || !slices.Equal(words, before) {
		t.Error("both are not done, worker by worker, or words are turned")
	}
	words[layout.AreaAt(g, 0)] = 0
	want[9], want[10] = 0, 3
	if got := commit.Over(g, words); !slices.Equal(got[:len(want)], want) {
		t.Error("one that has no commit word")
	}
	words[layout.AreaAt(g, 1)] ^= 1 << 63
	want[10], want[11] = 0, 0
	if got := commit.Over(g, words); !slices.Equal(got[:len(want)], want) {
		t.Error("one that has another commit word")
	}
	if l := commit.Over(g, words[:layout.Words(g)-1]); len(l) != 0 {
		t.Error("of too few words")
	}
	if l := commit.Over(layout.Geometry{}, words); len(l) != 0 {
		t.Error("of a geometry that may not be")
	}
}

// R4, P9.2: of no run.
func TestNoRun(t *testing.T) {
	var none *commit.Run
	if e := none.Begin(make([]api.Write, 97)); e != api.ErrNil {
		t.Error("begin: ", e)
	}
	if is, e := none.Resume(); is || e != api.ErrNil {
		t.Error("resume: ", is, e)
	}
	if p, e := none.Step(); p != commit.Idle || e != api.ErrNil {
		t.Error("step: ", p, e)
	}
	if none.Phase() != commit.Idle || none.Left() != 0 {
		t.Error("of no run something is told")
	}
}

// P9.4: whatever is evicted, lost and resumed, again and again: all or nothing of each worker's writes, and all behind the fence of its mark.
func TestAllOrNothing(t *testing.T) {
	seed := uint64(11)
	next := func(n int) int {
		seed = seed*6364136223846793005 + 1442695040888963407
		return int((seed >> 33) % uint64(n))
	}
	for round := range 400 {
		d := device(t)
		var runs [2]*commit.Run
		var lists [2][]api.Write
		for w := range runs {
			for i := range next(12) {
				lists[w] = append(lists[w], api.Write{At: layout.BlockAt(g, 10*w) + 7*i, Value: uint64(round + i + 1)})
			}
			runs[w] = begun(t, d, w, lists[w])
		}
		var marked, sure [2]bool
		for range next(120) {
			w := next(2)
			phase := runs[w].Phase()
			runs[w].Step()
			marked[w] = marked[w] || phase == commit.Marking
			sure[w] = sure[w] || phase == commit.Marking && runs[w].Phase() != commit.Marking
			if next(9) == 0 {
				d.Evict(next(d.Words() / 8))
			}
			if next(40) == 0 {
				lose(t, d, next, &runs)
				now := commit.Over(g, d.Sure())
				for w := range marked { // what was not sure is decided by the loss
					if len(lists[w]) > 0 {
						marked[w] = now[lists[w][0].At] == lists[w][0].Value
						if sure[w] && !marked[w] {
							t.Fatal("what was sure is lost")
						}
						sure[w] = marked[w]
					}
				}
			}
			look(t, d, lists, marked, sure)
		}
	}
}

// lose the power, and begin new runs with what is to be done.
func lose(t *testing.T, d *pmem.Device, next func(int) int, runs *[2]*commit.Run) {
	var picks []uint8
	for range d.Loose() {
		picks = append(picks, uint8(next(3)))
	}
	d.Crash(picks...)
	for w := range runs {
		runs[w] = run(t, d, w)
		if _, e := runs[w].Resume(); e != api.OK {
			t.Fatal("resume: ", e)
		}
	}
}

// look whether what is seen and what is sure have what they must.
func look(t *testing.T, d *pmem.Device, lists [2][]api.Write, marked, sure [2]bool) {
	t.Helper()
	want := layout.Format(g)
	for w, l := range lists {
		if marked[w] {
			view.Apply(want, l)
		}
	}
	if !slices.Equal(commit.Over(g, d.Seen()), want) {
		t.Fatal("what is seen is not what was marked")
	}
	now, want := commit.Over(g, d.Sure()), layout.Format(g)
	for w, l := range lists {
		if len(l) > 0 && now[l[0].At] == l[0].Value {
			view.Apply(want, l)
		} else if sure[w] && len(l) > 0 {
			t.Fatal("what is behind its fence is not there")
		}
	}
	if !slices.Equal(now, want) {
		t.Fatal("what is sure is a part of what was begun")
	}
}

package worker_test

import (
	"math"
	"slices"
	"strings"
	"testing"

	"grommet/api"
	"grommet/class"
	"grommet/layout"
	"grommet/lock"
	"grommet/plan"
	"grommet/pmem"
	"grommet/view"
	"grommet/worker"
)

var g = layout.Geometry{Workers: 3, Inodes: 12, Blocks: 80}

type (
	req = api.Request
	job = worker.Job
)

// device of these words, all of them sure.
func device(t *testing.T, words []uint64) *pmem.Device {
	t.Helper()
	d, e := pmem.New(len(words))
	if e != api.OK {
		t.Fatal("no device: ", e)
	}
	for at, w := range words {
		d.Store(at, w)
	}
	for line := range len(words) / 8 {
		d.Evict(line)
	}
	return d
}

// hands: workers of a device, with a table of their own.
func hands(t *testing.T, d *pmem.Device) ([]*worker.Worker, *lock.Table) {
	t.Helper()
	table, e := lock.New(g.Workers)
	if e != api.OK {
		t.Fatal("no table: ", e)
	}
	var l []*worker.Worker
	for w := range g.Workers {
		x, e := worker.New(d, g, table, w)
		if e != api.OK || x == nil {
			t.Fatal("no worker: ", e)
		}
		l = append(l, x)
	}
	return l, table
}

// tree: words of a device whose session 0 is open, with calls done to it.
func tree(t *testing.T, calls ...req) []uint64 {
	t.Helper()
	words := layout.Format(g)
	_, l, e := plan.Open(words, 0, 1)
	if e != api.OK {
		t.Fatal(e)
	}
	view.Apply(words, l)
	for i, r := range calls {
		_, x, l, e := plan.Call(words, 0, 1, uint64(i+1), r)
		if e != api.OK || x.Err != api.OK {
			t.Fatal(r, x, e)
		}
		view.Apply(words, l)
		_, l, _ = plan.Ack(words, 0, 1, uint64(i+1))
		view.Apply(words, l)
	}
	return words
}

// files: a device with /f (2), /d (3), /d/g (4); the descriptors 0, 1, 2 of session 0 lead to 2, 4 and 2.
func files(t *testing.T) []uint64 {
	return tree(t, req{Kind: api.ReqOpen, Path: "/f", Flags: api.Create}, req{Kind: api.ReqMkdir, Path: "/d"},
		req{Kind: api.ReqOpen, Path: "/d/g", Flags: api.Create}, req{Kind: api.ReqOpen, Path: "/f"})
}

// phases of a worker's steps, up to its Ending.
func phases(t *testing.T, x *worker.Worker) []worker.Phase {
	t.Helper()
	var l []worker.Phase
	for range 500 {
		p, e := x.Step()
		if e != api.OK {
			t.Fatal("a step: ", e)
		}
		l = append(l, p)
		if p == worker.Ending {
			return l
		}
	}
	t.Fatal("no end")
	return nil
}

// row: so many steps of each of these phases.
func row(l ...int) []worker.Phase {
	var out []worker.Phase
	for i := 0; i < len(l); i += 2 {
		out = append(out, slices.Repeat([]worker.Phase{worker.Phase(l[i])}, l[i+1])...)
	}
	return out
}

// P23.1: the locks of each kind, by the chapter's table.
func TestLocks(t *testing.T) {
	words := files(t)
	f, dg := lock.Inode(2), lock.Inode(4)
	n, b := lock.Names, lock.Blocks
	for _, c := range []struct {
		r    req
		want []int
	}{
		{req{Kind: api.ReqOpen, Path: "/f"}, []int{n}},
		{req{Kind: api.ReqOpen, Path: "/f", Flags: api.Only}, []int{n}},
		{req{Kind: api.ReqOpen, Path: "/f", Flags: api.Create}, []int{n, b}},
		{req{Kind: api.ReqOpen, Path: "/f", Flags: api.Empty}, []int{n, f, b}},
		{req{Kind: api.ReqOpen, Path: "/d/g", Flags: 7}, []int{n, dg, b}},
		{req{Kind: api.ReqOpen, Path: "/d", Flags: api.Empty}, []int{n, b}},
		{req{Kind: api.ReqOpen, Path: "/x", Flags: api.Empty}, []int{n, b}},
		{req{Kind: api.ReqOpen, Path: "x", Flags: api.Empty}, []int{n, b}},
		{req{Kind: api.ReqClose, Fd: 1}, []int{n, dg, b}},
		{req{Kind: api.ReqClose, Fd: 3}, []int{n, b}},
		{req{Kind: api.ReqRead, Fd: 2}, []int{f}},
		{req{Kind: api.ReqRead, Fd: 9}, nil},
		{req{Kind: api.ReqWrite, Fd: 0}, []int{f, b}},
		{req{Kind: api.ReqWrite, Fd: math.MaxUint64}, []int{b}},
		{req{Kind: api.ReqTruncate, Fd: 1, At: 999}, []int{dg, b}},
		{req{Kind: api.ReqSeek, Fd: 1}, nil},
		{req{Kind: api.ReqStat, Path: "/d/g"}, []int{n, dg}},
		{req{Kind: api.ReqStat, Path: "/d"}, []int{n}},
		{req{Kind: api.ReqMkdir, Path: "/f"}, []int{n, b}},
		{req{Kind: api.ReqRmdir, Path: "/f"}, []int{n, b}},
		{req{Kind: api.ReqLink, Path: "/f", To: "/d/g"}, []int{n, b}},
		{req{Kind: api.ReqUnlink, Path: "/f"}, []int{n, f, b}},
		{req{Kind: api.ReqUnlink, Path: "/"}, []int{n, b}},
		{req{Kind: api.ReqRename, Path: "/f", To: "/d/g"}, []int{n, dg, b}},
		{req{Kind: api.ReqRename, Path: "/f", To: "/h"}, []int{n, b}},
		{req{Kind: api.ReqReaddir, Path: "/f"}, []int{n}},
		{req{Kind: 14}, nil}, {req{}, nil}, {req{Kind: api.ReqOpen, Path: "/f", Flags: 8}, nil}, {req{Kind: api.ReqMkdir, Fd: 1}, nil},
	} {
		j := job{Kind: worker.Call, Gen: 1, Seq: 5, R: c.r}
		if l, e := worker.Locks(words, j); !slices.Equal(l, append([]int{0}, c.want...)) || e != api.OK {
			t.Errorf("%v: %v, %d", c.r, l, e)
		}
		// Of a call that is not new the session's lock alone.
		for _, j := range []job{{Kind: worker.Call, Gen: 1, Seq: 4, R: c.r}, {Kind: worker.Call, Gen: 1, Seq: 9, R: c.r}, {Kind: worker.Call, Gen: 2, Seq: 5, R: c.r}, {Kind: worker.Call, Gen: 1, R: c.r}} {
			if l, e := worker.Locks(words, j); !slices.Equal(l, []int{0}) || e != api.OK {
				t.Errorf("%v: %v, %d", j, l, e)
			}
		}
	}
}

// P23.1: the locks of the other jobs.
func TestLocksOfSessions(t *testing.T) {
	words := files(t)
	n, b := lock.Names, lock.Blocks
	var opens []req
	for _, s := range []string{"/a", "/b", "/c", "/d"} {
		opens = append(opens, req{Kind: api.ReqOpen, Path: s, Flags: api.Create})
	}
	four := tree(t, opens...)
	spoilt := slices.Clone(words)
	spoilt[layout.SessionAt(2)] = 7
	for _, c := range []struct {
		words []uint64
		j     job
		want  []int
	}{
		{words, job{Kind: worker.Close, Gen: 1}, []int{0, n, lock.Inode(2), lock.Inode(4), b}},
		{words, job{Kind: worker.Close, Gen: 2}, []int{0}},
		{words, job{Kind: worker.Close, Session: 3}, []int{3}},
		{four, job{Kind: worker.Close, Gen: 1}, []int{0, n, lock.Inode(2), lock.Inode(3), lock.Inode(4), lock.Inode(5), b}},
		{words, job{Kind: worker.Close, Gen: 1, R: req{Kind: api.ReqStat, Path: "/d"}}, []int{0, n, lock.Inode(2), lock.Inode(4), b}},
		{words, job{Kind: worker.Ack, Gen: 1, Seq: 9}, []int{0}},
		{words, job{Kind: worker.Ack, Gen: 1, Seq: 5, R: req{Kind: api.ReqMkdir, Path: "/x"}}, []int{0}},
		{words, job{Kind: worker.Open, Gen: 1, Seq: 5, R: req{Kind: api.ReqMkdir, Path: "/x"}}, []int{0}},
		{words, job{Kind: worker.Open, Session: 1, Gen: 1}, []int{1}},
		{words, job{Kind: worker.Call, Session: 3, Gen: 1, Seq: 1, R: req{Kind: api.ReqMkdir, Path: "/x"}}, []int{3}},
		{spoilt, job{Kind: worker.Close, Session: 2, Gen: 1}, []int{2}},
		{spoilt, job{Kind: worker.Call, Session: 2, Gen: 1, Seq: 1, R: req{Kind: api.ReqMkdir, Path: "/x"}}, []int{2}},
	} {
		if l, e := worker.Locks(c.words, c.j); !slices.Equal(l, c.want) || e != api.OK {
			t.Errorf("%v: %v, %d, not %v", c.j, l, e, c.want)
		}
	}
}

// notJobs: jobs that may not be.
func notJobs() []job {
	return []job{{}, {Kind: 5}, {Kind: 255}, {Kind: worker.Call, Session: -1}, {Kind: worker.Open, Session: 4, Gen: 1}, {Kind: worker.Ack, Session: math.MinInt}, {Kind: worker.Close, Session: math.MaxInt}}
}

// P23.1: errors of Locks and Plan.
func TestRefused(t *testing.T) {
	for _, j := range notJobs() {
		for _, words := range [][]uint64{nil, layout.Format(g)} {
			if l, e := worker.Locks(words, j); len(l) != 0 || e != api.ErrArg {
				t.Errorf("%v: locks %v, %d", j, l, e)
			}
			if r, l := worker.Plan(words, j); r != (worker.Reply{Err: api.ErrArg}) || len(l) != 0 {
				t.Errorf("%v: %v, %v", j, r, l)
			}
		}
	}
	for k := worker.Call; k <= worker.Close; k++ {
		if l, e := worker.Locks(nil, job{Kind: k}); len(l) != 0 || e != api.ErrBytes {
			t.Errorf("of no device: locks %v, %d", l, e)
		}
		if r, l := worker.Plan(nil, job{Kind: k, Gen: 1}); r != (worker.Reply{Err: api.ErrBytes}) || len(l) != 0 {
			t.Errorf("of no device: %v, %v", r, l)
		}
	}
}

// P23.1: Plan tells what the plan does.
func TestPlan(t *testing.T) {
	words := files(t)
	mkdir := req{Kind: api.ReqMkdir, Path: "/x"}
	for _, c := range []struct {
		j    job
		want worker.Reply
		many bool
	}{
		{job{Kind: worker.Call, Gen: 1, Seq: 5, R: mkdir}, worker.Reply{R: api.Result{A: 5}}, true},
		{job{Kind: worker.Call, Gen: 1, Seq: 5, R: req{Kind: api.ReqMkdir, Path: "/f"}}, worker.Reply{R: api.Result{Err: api.ErrExist}}, true},
		{job{Kind: worker.Call, Gen: 1, Seq: 4, R: mkdir}, worker.Reply{Class: class.Stale}, false},
		{job{Kind: worker.Call, Gen: 1, Seq: 9, R: mkdir}, worker.Reply{Class: class.Gap}, false},
		{job{Kind: worker.Call, Gen: 2, Seq: 5, R: mkdir}, worker.Reply{Err: api.ErrClosed}, false},
		{job{Kind: worker.Call, Gen: 1, Seq: 5}, worker.Reply{Err: api.ErrArg}, false},
		{job{Kind: worker.Ack, Gen: 1, Seq: 9, R: mkdir}, worker.Reply{Mark: 4}, false},
		{job{Kind: worker.Ack, Gen: 3, Seq: 9}, worker.Reply{Err: api.ErrClosed}, false},
		{job{Kind: worker.Open, Gen: 1, Seq: 7}, worker.Reply{Class: class.Done}, false},
		{job{Kind: worker.Open, Session: 2, Gen: 1}, worker.Reply{}, true},
		{job{Kind: worker.Open, Session: 2}, worker.Reply{Err: api.ErrArg}, false},
		{job{Kind: worker.Close, Gen: 1}, worker.Reply{}, true},
		{job{Kind: worker.Close, Gen: 2}, worker.Reply{Class: class.Gap}, false},
	} {
		before := slices.Clone(words)
		if r, l := worker.Plan(words, c.j); r != c.want || (len(l) > 0) != c.many || !slices.Equal(words, before) {
			t.Errorf("%v: %v, %v, not %v", c.j, r, l, c.want)
		}
	}
}

// P23.2: New, and what may not be begun.
func TestNew(t *testing.T) {
	d := device(t, layout.Format(g))
	short := device(t, layout.Format(g)[:layout.Words(g)-8])
	table, _ := lock.New(3)
	for _, c := range []struct {
		d    *pmem.Device
		g    layout.Geometry
		t    *lock.Table
		w    int
		want api.Errno
	}{
		{nil, layout.Geometry{}, table, 9, api.ErrNil}, {d, layout.Geometry{}, nil, 9, api.ErrNil}, {d, layout.Geometry{}, table, 0, api.ErrArg}, {short, g, table, 3, api.ErrArg}, {d, g, table, -1, api.ErrArg},
		{short, g, table, 2, api.ErrRange}, {d, g, table, 2, api.OK},
	} {
		if x, e := worker.New(c.d, c.g, c.t, c.w); e != c.want || (x == nil) != (e != api.OK) {
			t.Errorf("%v, %d: %d, not %d", c.g, c.w, e, c.want)
		}
	}
}

// P23.2, P23.3: the chapter's example, and what a worker tells of itself.
func TestOneJob(t *testing.T) {
	d := device(t, layout.Format(g))
	l, table := hands(t, d)
	x := l[0]
	idle := func() {
		t.Helper()
		if p, e := x.Step(); p != worker.Idle || e != api.ErrState || x.Busy() {
			t.Errorf("without a job: %d, %d", p, e)
		}
	}
	noReply := func() {
		t.Helper()
		if r, is := x.Take(); is || r != (worker.Reply{}) {
			t.Errorf("a reply: %v", r)
		}
	}
	idle()
	noReply()
	for _, j := range notJobs() {
		if e := x.Begin(j); e != api.ErrArg || x.Busy() {
			t.Errorf("%v: %d", j, e)
		}
	}
	open := job{Kind: worker.Open, Gen: 1}
	if e := x.Begin(open); e != api.OK || !x.Busy() {
		t.Fatal(e)
	}
	if x.Begin(open) != api.ErrState || x.Begin(job{}) != api.ErrArg {
		t.Error("begun twice")
	}
	noReply()
	want := row(1, 1, 3, 1, 4, 6, 5, 2, 6, 3, 7, 2, 8, 2, 9, 3, 10, 1)
	if got := phases(t, x); !slices.Equal(got, want) {
		t.Errorf("%v, not %v", got, want)
	}
	idle()
	if len(table.Held(0)) != 0 || d.Loose() != 0 {
		t.Error("locks are held, or words are loose")
	}
	if x.Begin(open) != api.ErrState || x.Begin(job{}) != api.ErrArg {
		t.Error("begun ahead of the reply's taking")
	}
	if r, is := x.Take(); !is || r != (worker.Reply{}) {
		t.Errorf("%v, %v", r, is)
	}
	noReply()
	if e := x.Begin(open); e != api.OK {
		t.Fatal(e)
	}
	if got := phases(t, x); !slices.Equal(got, row(1, 1, 3, 1, 10, 1)) {
		t.Errorf("again: %v", got)
	}
	if r, is := x.Take(); !is || r != (worker.Reply{Class: class.Done}) {
		t.Errorf("again: %v, %v", r, is)
	}
}

// P23.3: locks are wanted one by one, and kept to the Ending.
func TestLocking(t *testing.T) {
	d := device(t, files(t))
	l, table := hands(t, d)
	l[1].Begin(job{Kind: worker.Call, Gen: 1, Seq: 5, R: req{Kind: api.ReqUnlink, Path: "/f"}})
	for i, held := range [][]int{{0}, {0, 4}, {0, 4, 7}, {0, 4, 7, 69}} {
		if p, e := l[1].Step(); p != worker.Locking || e != api.OK || !slices.Equal(table.Held(1), held) {
			t.Errorf("step %d: %d, %d, %v", i, p, e, table.Held(1))
		}
	}
	before := d.Seen()
	if p, _ := l[1].Step(); p != worker.Planning || !slices.Equal(d.Seen(), before) {
		t.Errorf("then %d", p)
	}
	for {
		if len(table.Held(1)) != 4 {
			t.Errorf("held are %v", table.Held(1))
		}
		p, _ := l[1].Step()
		if _, is := l[1].Take(); is != (p == worker.Ending) {
			t.Errorf("a reply at %d", p)
		}
		if p == worker.Ending {
			break
		}
	}
	if len(table.Held(1)) != 0 {
		t.Errorf("held are %v", table.Held(1))
	}
}

// P23.3: as long as a worker waits a step does nothing; its turn comes with the other's Ending.
func TestWaiting(t *testing.T) {
	d := device(t, files(t))
	l, table := hands(t, d)
	mkdir := func(seq uint64, s string) job {
		return job{Kind: worker.Call, Gen: 1, Seq: seq, R: req{Kind: api.ReqMkdir, Path: s}}
	}
	l[0].Begin(mkdir(5, "/x"))
	l[2].Begin(mkdir(5, "/y")) // the same call: it is done once
	for i, want := range []worker.Phase{worker.Locking, worker.Waiting, worker.Waiting} {
		l[0].Step()
		if p, e := l[2].Step(); p != want || e != api.OK {
			t.Errorf("step %d: %d, %d", i, p, e)
		}
	}
	if lockNo, waits := table.Waits(2); lockNo != 0 || !waits {
		t.Error("it does not wait")
	}
	before := d.Seen()
	l[2].Step()
	if !slices.Equal(d.Seen(), before) {
		t.Error("a step of one that waits does something")
	}
	phases(t, l[0])
	if got := phases(t, l[2]); !slices.Equal(got, row(3, 1, 10, 1)) {
		t.Errorf("behind it: %v", got)
	}
	if r, _ := l[0].Take(); r != (worker.Reply{R: api.Result{A: 5}}) {
		t.Errorf("the first one: %v", r)
	}
	if r, _ := l[2].Take(); r != (worker.Reply{Class: class.Done, R: api.Result{A: 5}}) {
		t.Errorf("the second one: %v", r)
	}
}

// P23.3: locks are those of the words that are seen at each step: an inode that is made while one waits is locked, too.
func TestLocksAreSeenAnew(t *testing.T) {
	d := device(t, tree(t))
	l, table := hands(t, d)
	open := func(k int, gen uint64, s int) {
		l[k].Begin(job{Kind: worker.Open, Session: s, Gen: gen})
		phases(t, l[k])
		l[k].Take()
	}
	open(1, 1, 1)
	l[0].Begin(job{Kind: worker.Call, Gen: 1, Seq: 1, R: req{Kind: api.ReqOpen, Path: "/n", Flags: api.Create}})
	l[0].Step()
	l[0].Step() // it holds Names
	unlink := job{Kind: worker.Call, Session: 1, Gen: 1, Seq: 1, R: req{Kind: api.ReqUnlink, Path: "/n"}}
	l[1].Begin(unlink)
	l[1].Step()
	l[1].Step()
	if n, waits := table.Waits(1); n != lock.Names || !waits {
		t.Fatal("it does not wait for the names")
	}
	phases(t, l[0])
	if p, _ := l[1].Step(); p != worker.Locking || !slices.Equal(table.Held(1), []int{1, 4, lock.Inode(2)}) {
		t.Errorf("%d, %v", p, table.Held(1))
	}
	phases(t, l[1])
	if r, _ := l[1].Take(); r != (worker.Reply{}) {
		t.Errorf("%v", r)
	}
}

// P23.1, P23.3: of words that are no device the session's lock is wanted, and ErrBytes is told.
func TestNoDeviceWords(t *testing.T) {
	d := device(t, make([]uint64, layout.Words(g)))
	l, _ := hands(t, d)
	if e := l[0].Begin(job{Kind: worker.Open, Session: 2, Gen: 1}); e != api.OK {
		t.Fatal(e)
	}
	if got := phases(t, l[0]); !slices.Equal(got, row(1, 1, 3, 1, 10, 1)) {
		t.Errorf("%v", got)
	}
	if r, is := l[0].Take(); !is || r != (worker.Reply{Err: api.ErrBytes}) || d.Loose() != 0 {
		t.Errorf("%v", r)
	}
}

// R4, P23.3: of no worker.
func TestNoWorker(t *testing.T) {
	var none *worker.Worker
	if none.Begin(job{}) != api.ErrNil || none.Begin(job{Kind: worker.Open}) != api.ErrNil || none.Busy() {
		t.Error("begin")
	}
	if p, e := none.Step(); p != worker.Idle || e != api.ErrNil {
		t.Error("step: ", p, e)
	}
	if r, is := none.Take(); r != (worker.Reply{}) || is {
		t.Error("take: ", r)
	}
}

// randomJob of a session whose calls may be asked for again, or out of turn.
func randomJob(next func(int) int, seqs *[4]uint64, gens *[4]uint64) job {
	paths := []string{"/f", "/d", "/d/g", "/d/a", "/a", "/a/b", "/d/g", "/d/h"}
	kinds := []uint8{1, 1, 1, 1, 1, 8, 8, 8, 4, 4, 4, 3, 3, 2, 5, 6, 7, 9, 10, 11, 12, 13}
	s := next(4)
	j := job{Kind: worker.Call, Session: s, Gen: gens[s], Seq: max(2, seqs[s]+uint64(next(3))) - 1}
	switch next(24) {
	case 0, 1, 2, 3, 4, 5:
		j.Kind = worker.Ack
		return j
	case 6, 7, 8:
		j.Kind, j.Gen = worker.Open, gens[s]+uint64(next(8)/7)
		return j
	case 9:
		if next(4) == 0 {
			j.Kind = worker.Close
			gens[s], seqs[s] = gens[s]+1, 1
		}
		return j
	}
	seqs[s] += uint64(next(4) / 3)
	j.R = req{Kind: kinds[next(len(kinds))]}
	switch j.R.Kind {
	case api.ReqOpen:
		j.R.Path, j.R.Flags = paths[next(8)], uint8(next(8))|api.Create
	case api.ReqLink, api.ReqRename:
		j.R.Path, j.R.To = paths[next(8)], paths[next(8)]
	case api.ReqStat, api.ReqMkdir, api.ReqRmdir, api.ReqUnlink, api.ReqReaddir:
		j.R.Path = paths[next(8)]
	default:
		j.R.Fd = uint64(next(2))
	}
	switch j.R.Kind {
	case api.ReqWrite:
		j.R.Data = strings.Repeat(string(rune('a'+next(26))), next(100))
	case api.ReqRead:
		j.R.Size = uint64(next(65))
	case api.ReqSeek, api.ReqTruncate:
		j.R.At = uint64(next(300))
	}
	return j
}

// P23.4, W5: whatever the order of the steps: replies and words are as if each job were done at once, at its first Marking, or, without writes, at its Planning; all jobs come to an end.
func TestSideBySide(t *testing.T) {
	for seed := range uint64(10) {
		state := seed*77 + 5
		next := func(n int) int {
			state = state*6364136223846793005 + 1442695040888963407
			return int((state >> 33) % uint64(n))
		}
		words := files(t) // as if each job were done at once
		var seqs, gens [4]uint64
		for i := range gens {
			seqs[i], gens[i] = 1, 1
			if i == 0 {
				seqs[i] = 5
			}
			_, writes, _ := plan.Open(words, i, 1)
			view.Apply(words, writes)
		}
		d := device(t, words)
		l, _ := hands(t, d)
		var jobs [3]job
		var want [3]*worker.Reply
		ended := 0
		for step := 0; ended < 400; step++ {
			if step > 100000 {
				t.Fatal("jobs do not end")
			}
			w := next(3)
			if !l[w].Busy() {
				jobs[w], want[w] = randomJob(next, &seqs, &gens), nil
				if e := l[w].Begin(jobs[w]); e != api.OK {
					t.Fatal(jobs[w], e)
				}
			}
			p, e := l[w].Step()
			if e != api.OK {
				t.Fatal(p, e)
			}
			if r, writes := worker.Plan(words, jobs[w]); want[w] == nil && (p == worker.Marking || p == worker.Planning && len(writes) == 0) {
				want[w] = &r
				view.Apply(words, writes)
			}
			if p == worker.Ending {
				ended++
				r, is := l[w].Take()
				if !is || want[w] == nil || r != *want[w] {
					t.Fatalf("%v: %v, not %v", jobs[w], r, want[w])
				}
			}
		}
		for w := range l { // so that nothing is in its midst
			for l[w].Busy() {
				for v := range l {
					if l[v].Busy() {
						if p, _ := l[v].Step(); p == worker.Marking && want[v] == nil || p == worker.Planning {
							if r, writes := worker.Plan(words, jobs[v]); p == worker.Marking || len(writes) == 0 {
								want[v] = &r
								view.Apply(words, writes)
							}
						}
					}
				}
			}
		}
		seen := d.Seen()
		for w := range g.Workers {
			clear(seen[layout.AreaAt(g, w):][:layout.AreaSize])
		}
		if !slices.Equal(seen, words) {
			t.Fatal("the words are others")
		}
	}
}

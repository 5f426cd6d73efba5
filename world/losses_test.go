package world_test

import (
	"slices"
	"strings"
	"testing"

	"grommet/api"
	"grommet/check"
	"grommet/class"
	"grommet/commit"
	"grommet/layout"
	"grommet/view"
	"grommet/worker"
	"grommet/world"
)

// marked is a job whose commit word was stored, and what it writes.
type marked struct {
	ticket int
	writes []api.Write
	steps  int // of its Marking
}

// trial is a world to which anything is done, and what must be found there.
type trial struct {
	t     *testing.T
	g     layout.Geometry
	w     *world.World
	state uint64

	words []uint64              // what all calls made whose commit is sure, one behind the other
	loose []marked              // those whose commit may be lost yet, in the order of their Marking
	jobs  map[int]job           // by their tickets, till a reply is told
	want  map[int]*worker.Reply // what is to be told of each ticket

	gens, seqs [4]uint64                // of each session: its generation, its next call
	asked      [4]map[uint64]req        // the calls of each session
	results    [4]map[uint64]api.Result // what was told of them
	losses     int
	made       int // calls that were told New
}

func newTrial(t *testing.T, g layout.Geometry, seed uint64) *trial {
	x := &trial{t: t, g: g, w: fresh(t, g), state: seed, words: layout.Format(g)}
	x.begin()
	for i := range x.gens {
		x.gens[i] = 1
		x.reset(i)
	}
	return x
}

func (x *trial) next(n int) int {
	x.state = x.state*6364136223846793005 + 1442695040888963407
	return int((x.state >> 33) % uint64(n))
}

// begin tickets anew.
func (x *trial) begin() {
	x.jobs, x.want = map[int]job{}, map[int]*worker.Reply{}
}

// reset a session: its calls begin anew.
func (x *trial) reset(i int) {
	x.seqs[i], x.asked[i], x.results[i] = 1, map[uint64]req{}, map[uint64]api.Result{}
}

// now: what all calls made that were marked.
func (x *trial) now() []uint64 {
	words := slices.Clone(x.words)
	for _, m := range x.loose {
		view.Apply(words, m.writes)
	}
	return words
}

// anything that a session may ask for.
func (x *trial) anything() req {
	paths := []string{"/a", "/b", "/a/a", "/a/b", "/b/a", "/c"}
	kinds := []uint8{1, 1, 1, 8, 8, 4, 4, 4, 3, 2, 5, 6, 7, 9, 10, 11, 12, 13}
	r := req{Kind: kinds[x.next(len(kinds))]}
	switch r.Kind {
	case api.ReqOpen:
		r.Path, r.Flags = paths[x.next(6)], uint8(x.next(8))|api.Create
	case api.ReqLink, api.ReqRename:
		r.Path, r.To = paths[x.next(6)], paths[x.next(6)]
	case api.ReqStat, api.ReqMkdir, api.ReqRmdir, api.ReqUnlink, api.ReqReaddir:
		r.Path = paths[x.next(6)]
	case api.ReqWrite:
		r.Fd, r.Data = uint64(x.next(2)), strings.Repeat(string(rune('a'+x.next(26))), x.next(100))
	case api.ReqRead:
		r.Fd, r.Size = uint64(x.next(2)), 64
	case api.ReqSeek, api.ReqTruncate:
		r.Fd, r.At = uint64(x.next(2)), uint64(x.next(300))
	case api.ReqClose:
		r.Fd = uint64(x.next(2))
	}
	return r
}

// job that is asked for: of a call that was asked for already the same again.
func (x *trial) job() job {
	i := x.next(4)
	j := job{Kind: worker.Call, Session: i, Gen: x.gens[i], Seq: x.seqs[i]}
	switch x.next(20) {
	case 0, 1:
		j.Kind = worker.Open
		return j
	case 2, 3, 4:
		j.Kind, j.Seq = worker.Ack, uint64(x.next(int(x.seqs[i])+3))
		return j
	case 5:
		if x.next(6) == 0 {
			j.Kind = worker.Close
			x.gens[i]++
			x.reset(i)
			return j
		}
	case 6:
		j.Seq += uint64(x.next(5))
	}
	r, is := x.asked[i][j.Seq]
	if !is {
		r = x.anything()
		x.asked[i][j.Seq] = r
	}
	j.R = r
	return j
}

func (x *trial) submit() {
	j := x.job()
	told := x.w.Do(act{Kind: world.Submit, J: j})
	if told.Err == api.OK {
		x.jobs[told.N] = j
	} else if told.Err != api.ErrMany {
		x.t.Fatalf("Submit: %v", told)
	}
}

// step a worker, and do its job to the words at its first Marking, or, without writes, at its Planning.
func (x *trial) step() {
	k := x.next(x.g.Workers)
	told := x.w.Do(act{Kind: world.Step, N: k})
	if told.Err != api.OK && told.Err != api.ErrNone {
		x.t.Fatalf("Step: %v", told)
	}
	ticket := x.w.Doing(k)
	phase := worker.Phase(told.N)
	if phase != worker.Planning && phase != worker.Marking {
		return
	}
	if x.want[ticket] == nil {
		r, l := worker.Plan(x.now(), x.jobs[ticket])
		if phase == worker.Planning && len(l) > 0 {
			return
		}
		x.want[ticket] = &r
		if len(l) > 0 {
			x.loose = append(x.loose, marked{ticket: ticket, writes: l})
		}
	}
	x.fence(ticket)
}

// fence: behind the third step of its Marking what a job writes is sure.
func (x *trial) fence(ticket int) {
	for n := range x.loose {
		m := &x.loose[n]
		if m.ticket != ticket {
			continue
		}
		m.steps++
		if m.steps == 3 {
			view.Apply(x.words, m.writes)
			x.loose = slices.Delete(x.loose, n, n+1)
		}
		return
	}
}

// reply: what is told is what the job made, and is the same for ever.
func (x *trial) reply() {
	for ticket, j := range x.jobs {
		told := x.w.Do(act{Kind: world.Reply, N: ticket})
		if told.Err == api.ErrBusy {
			continue
		}
		if told.Err != api.OK || x.want[ticket] == nil || told.Reply != *x.want[ticket] {
			x.t.Fatalf("Reply of %v: %v, not %v", j, told, x.want[ticket])
		}
		delete(x.jobs, ticket)
		if r := told.Reply; j.Kind == worker.Call && r.Err == api.OK && r.Class <= class.Done {
			if r.Class == class.New {
				x.made++
			}
			x.tells(j, r.R)
		}
	}
}

// tells a result of a call.
func (x *trial) tells(j job, r api.Result) {
	i := j.Session
	if j.Gen != x.gens[i] {
		return
	}
	if was, is := x.results[i][j.Seq]; is && was != r {
		x.t.Fatalf("the call %d of %d was told %v, and is told %v", j.Seq, i, was, r)
	}
	x.results[i][j.Seq] = r
	if j.Seq == x.seqs[i] {
		x.seqs[i]++
	}
}

// lose the power: of what is not sure any may be lost, wholly.
func (x *trial) lose() {
	x.losses++
	picks := make([]uint8, x.next(200))
	for n := range picks {
		picks[n] = uint8(x.next(256))
	}
	if told := x.w.Do(act{Kind: world.Crash, Picks: picks}); told.Err != api.OK {
		x.t.Fatalf("Crash: %v", told)
	}
	now := commit.Over(x.g, x.w.Sure())
	for which := range 1 << len(x.loose) {
		words := slices.Clone(x.words)
		for n, m := range x.loose {
			if which>>n&1 == 1 {
				view.Apply(words, m.writes)
			}
		}
		if slices.Equal(words, now) {
			x.words, x.loose = words, nil
			x.begin()
			return
		}
	}
	x.t.Fatal("behind a loss there is what no calls made")
}

// mount till it serves, or the power goes again; then all that was told is there.
func (x *trial) mount() {
	for !x.w.Serving() {
		if told := x.w.Do(act{Kind: world.Mount}); told.Err != api.OK {
			x.t.Fatalf("Mount: %v", told)
		}
		x.evict()
		if x.next(12) == 0 {
			x.lose()
		}
		x.look()
	}
	x.query()
}

// query all that was told: it is Done with that result, or acknowledged.
func (x *trial) query() {
	for i := range x.results {
		for seq, r := range x.results[i] {
			told := x.w.Do(act{Kind: world.Query, J: job{Session: i, Gen: x.gens[i], Seq: seq}})
			if told.Err == api.ErrBusy {
				continue
			}
			if told.Err != api.OK || told.Class != class.Done && told.Class != class.Stale || told.Class == class.Done && told.R != r {
				x.t.Fatalf("Query of %d, %d: %v, not %v", i, seq, told, r)
			}
		}
	}
	i := x.next(4) // what a Query tells is told for ever, too
	j := job{Session: i, Gen: x.gens[i], Seq: x.seqs[i]}
	if told := x.w.Do(act{Kind: world.Query, J: j}); told.Err == api.OK && told.Class == class.Done {
		x.tells(j, told.R)
	}
}

func (x *trial) evict() {
	if x.next(6) == 0 {
		x.w.Do(act{Kind: world.Evict, N: x.next(layout.Words(x.g) / 8)})
	}
}

// look whether what is seen, and what is sure, is sound, and what the calls made.
func (x *trial) look() {
	if x.next(10) > 0 {
		return
	}
	seen, sure := commit.Over(x.g, x.w.Seen()), commit.Over(x.g, x.w.Sure())
	for _, words := range [][]uint64{seen, sure} {
		if f, sound := check.Look(words); !sound {
			x.t.Fatalf("%v", f)
		}
	}
	if !slices.Equal(seen, x.now()) {
		x.t.Fatal("what is seen is not what the calls made")
	}
}

// P27.3, W1 to W5: whatever is done, evicted and lost.
func TestWhateverIsLost(t *testing.T) {
	losses, made := 0, 0
	for seed := range uint64(24) {
		x := newTrial(t, layout.Geometry{Workers: 1 + int(seed%4), Inodes: 6 + int(seed%7), Blocks: 20 + int(seed)}, seed*91+7)
		for range 2500 {
			if !x.w.Serving() {
				x.mount()
			}
			switch n := x.next(60); {
			case n < 4:
				x.submit()
			case n < 6:
				x.reply()
			case n == 6:
				x.query()
			case n == 7 && x.next(8) == 0:
				x.lose()
			default:
				x.step()
			}
			x.evict()
			x.look()
		}
		x.rest()
		losses, made = losses+x.losses, made+x.made
	}
	if losses < 50 || made < 300 {
		t.Errorf("%d losses, %d calls made alone", losses, made)
	}
}

// rest: all jobs come to an end, and when all is closed and taken away all is free.
func (x *trial) rest() {
	if !x.w.Serving() {
		x.mount()
	}
	if told := x.w.Do(act{Kind: world.Rest}); told.Err != api.OK || told.N >= 100000 {
		x.t.Fatalf("Rest: %v", told)
	}
	for ticket, j := range x.jobs {
		if told := x.w.Do(act{Kind: world.Reply, N: ticket}); told.Err != api.OK {
			x.t.Fatalf("Reply of %v: %v", j, told)
		}
	}
	seen := x.w.Seen()
	if !slices.Equal(x.w.Sure(), seen) {
		x.t.Fatal("at rest something is not sure")
	}
	if f, sound := check.Look(commit.Over(x.g, seen)); !sound {
		x.t.Fatalf("%v", f)
	}
}

// P27.2, P27.3: wherever the power goes in a call, and whatever is lost, it is there wholly or not at all, and asked again it is done once.
func TestEachStep(t *testing.T) {
	for _, pick := range []uint8{0, 1, 2} {
		for steps := range 30 {
			w := fresh(t, one)
			w.Do(act{Kind: world.Submit, J: open()})
			w.Do(act{Kind: world.Rest})
			mkdir := call(1, req{Kind: api.ReqMkdir, Path: "/d"})
			w.Do(act{Kind: world.Submit, J: mkdir})
			for range steps {
				w.Do(act{Kind: world.Step})
			}
			does(t, w, act{Kind: world.Crash, Picks: slices.Repeat([]uint8{pick}, 60)}, told{})
			w.Do(act{Kind: world.Rest})
			got := w.Do(act{Kind: world.Query, J: mkdir})
			if got != (told{}) && got != (told{Class: class.Done, R: api.Result{A: 2}}) {
				t.Fatalf("behind %d steps: %v", steps, got)
			}
			does(t, w, act{Kind: world.Submit, J: mkdir}, told{N: 1})
			w.Do(act{Kind: world.Rest})
			does(t, w, act{Kind: world.Reply, N: 1}, told{Reply: worker.Reply{Class: got.Class, R: api.Result{A: 2}}})
			does(t, w, act{Kind: world.Submit, J: call(2, req{Kind: api.ReqReaddir, Path: "/"})}, told{N: 2})
			w.Do(act{Kind: world.Rest})
			does(t, w, act{Kind: world.Reply, N: 2}, told{Reply: worker.Reply{R: api.Result{A: 2, B: 1, Data: "d"}}})
		}
	}
}

// W5: how many workers there are, and in which order they step, turns nothing of what one client is told who waits for each reply.
func TestOneClient(t *testing.T) {
	var first []told
	for workers := 1; workers <= 4; workers++ {
		x := newTrial(t, layout.Geometry{Workers: workers, Inodes: 9, Blocks: 40}, 3)
		var all []told
		ask := func(j job) {
			n := x.w.Do(act{Kind: world.Submit, J: j}).N
			for {
				x.w.Do(act{Kind: world.Step, N: x.next(workers)})
				if r := x.w.Do(act{Kind: world.Reply, N: n}); r.Err != api.ErrBusy {
					all = append(all, r)
					return
				}
			}
		}
		requests := newTrial(t, one, 77) // the same of all
		ask(open())
		for seq := range uint64(150) {
			r := requests.anything()
			ask(call(seq+1, r))
			ask(call(seq+1, r))
			ask(job{Kind: worker.Ack, Gen: 1, Seq: seq + 1})
		}
		if workers == 1 {
			first = all
		}
		if !slices.Equal(all, first) {
			t.Errorf("%d workers: other replies", workers)
		}
	}
}

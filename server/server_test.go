package server_test

import (
	"math"
	"testing"

	"grommet/api"
	"grommet/class"
	"grommet/layout"
	"grommet/mount"
	"grommet/pmem"
	"grommet/server"
	"grommet/view"
	"grommet/worker"
)

type (
	req   = api.Request
	job   = worker.Job
	reply = worker.Reply
)

// device: a new one, of so many workers.
func device(t *testing.T, workers int) *pmem.Device {
	t.Helper()
	g := layout.Geometry{Workers: workers, Inodes: 9, Blocks: 40}
	d, e := pmem.New(layout.Words(g))
	if e != api.OK || mount.Format(d, g) != api.OK {
		t.Fatal("no device: ", e)
	}
	return d
}

func serve(t *testing.T, d *pmem.Device) *server.Server {
	t.Helper()
	s, e := server.New(d)
	if e != api.OK || s == nil {
		t.Fatal("no server: ", e)
	}
	return s
}

func submit(t *testing.T, s *server.Server, j job, want int, error api.Errno) {
	t.Helper()
	if n, e := s.Submit(j); n != want || e != error {
		t.Errorf("Submit %v: %d, %d, not %d, %d", j, n, e, want, error)
	}
}

func told(t *testing.T, s *server.Server, ticket int, want reply, error api.Errno) {
	t.Helper()
	if r, e := s.Reply(ticket); r != want || e != error {
		t.Errorf("Reply %d: %v, %d, not %v, %d", ticket, r, e, want, error)
	}
}

func query(t *testing.T, s *server.Server, i int, gen, seq uint64, c class.Class, r api.Result, error api.Errno) {
	t.Helper()
	if got, x, e := s.Query(i, gen, seq); got != c || x != r || e != error {
		t.Errorf("Query %d, %d, %d: %d, %v, %d, not %d, %v, %d", i, gen, seq, got, x, e, c, r, error)
	}
}

// state holds how many jobs wait, and what the workers do.
func state(t *testing.T, s *server.Server, waiting int, doing ...int) {
	t.Helper()
	if s.Waiting() != waiting {
		t.Errorf("%d wait, not %d", s.Waiting(), waiting)
	}
	for w, n := range doing {
		if s.Doing(w) != n {
			t.Errorf("the worker %d does %d, not %d", w, s.Doing(w), n)
		}
	}
}

// steps of a worker, up to its Ending.
func steps(t *testing.T, s *server.Server, w int) int {
	t.Helper()
	for n := 1; n < 500; n++ {
		p, e := s.Step(w)
		if e != api.OK {
			t.Fatal("a step: ", e)
		}
		if p == worker.Ending {
			return n
		}
	}
	t.Fatal("no end")
	return 0
}

// call of the session 0.
func call(seq uint64, r req) job {
	return job{Kind: worker.Call, Gen: 1, Seq: seq, R: r}
}

func mkdir(seq uint64, s string) job {
	return call(seq, req{Kind: api.ReqMkdir, Path: s})
}

// open of a session.
func open(i int) job {
	return job{Kind: worker.Open, Session: i, Gen: 1}
}

// P26.1 to P26.3: the chapter's example.
func TestExample(t *testing.T) {
	s := serve(t, device(t, 1))
	if p, e := s.Step(0); p != worker.Idle || e != api.ErrNone {
		t.Errorf("nothing waits: %d, %d", p, e)
	}
	submit(t, s, open(0), 1, api.OK)
	query(t, s, 0, 1, 1, class.New, api.Result{}, api.ErrBusy)
	if n := steps(t, s, 0); n != 21 {
		t.Errorf("%d steps", n)
	}
	told(t, s, 1, reply{}, api.OK)
	told(t, s, 1, reply{}, api.ErrNone)
	query(t, s, 0, 1, 1, class.New, api.Result{}, api.OK)
}

// P26.1: New.
func TestNew(t *testing.T) {
	if s, e := server.New(nil); s != nil || e != api.ErrNil {
		t.Error("of nothing: ", e)
	}
	blank, _ := pmem.New(800)
	if s, e := server.New(blank); s != nil || e != api.ErrBytes {
		t.Error("of no device: ", e)
	}
	for workers := 1; workers <= 4; workers++ {
		d := device(t, workers)
		s := serve(t, d)
		if s.Workers() != workers {
			t.Errorf("%d workers", s.Workers())
		}
		state(t, s, 0, 0, 0, 0, 0)
		g, _ := layout.Of(d.Seen())
		d.Store(layout.AreaAt(g, workers-1), 1)
		if s, e := server.New(d); s != nil || e != api.ErrState {
			t.Error("of one that is not mounted: ", e)
		}
	}
}

// P26.1: Submit.
func TestSubmit(t *testing.T) {
	s := serve(t, device(t, 2))
	bad := []job{{}, {Kind: 5}, {Kind: worker.Open, Session: -1}, {Kind: worker.Call, Session: 4}, {Kind: worker.Ack, Session: math.MaxInt}}
	for _, j := range bad {
		submit(t, s, j, 0, api.ErrArg)
	}
	state(t, s, 0, 0, 0)
	for n := 1; n <= server.MaxQueue; n++ {
		submit(t, s, job{Kind: worker.Kind(1 + n%4), Session: n % 4}, n, api.OK)
		state(t, s, n, 0, 0)
	}
	submit(t, s, open(0), 0, api.ErrMany)
	submit(t, s, job{}, 0, api.ErrArg)
	state(t, s, 16, 0, 0)
	s.Step(1)
	state(t, s, 15, 0, 1)
	submit(t, s, open(0), 17, api.OK)
	submit(t, s, open(0), 0, api.ErrMany)
	if server.MaxQueue != 16 {
		t.Error("the queue is another one")
	}
}

// P26.2: jobs are begun in the order of their tickets, by whichever worker steps.
func TestStep(t *testing.T) {
	s := serve(t, device(t, 3))
	for _, w := range []int{math.MinInt, -1, 3, math.MaxInt} {
		if p, e := s.Step(w); p != worker.Idle || e != api.ErrArg || s.Doing(w) != 0 {
			t.Errorf("the worker %d: %d, %d", w, p, e)
		}
	}
	for i := range 4 {
		submit(t, s, open(i), i+1, api.OK)
	}
	if p, e := s.Step(2); p != worker.Locking || e != api.OK {
		t.Errorf("%d, %d", p, e)
	}
	state(t, s, 3, 0, 0, 1)
	s.Step(0)
	state(t, s, 2, 2, 0, 1)
	s.Step(2)
	state(t, s, 2, 2, 0, 1)
	s.Step(1)
	state(t, s, 1, 2, 3, 1)
	for ticket := 1; ticket <= 4; ticket++ {
		told(t, s, ticket, reply{}, api.ErrBusy)
	}
	steps(t, s, 2)
	state(t, s, 1, 2, 3, 0)
	told(t, s, 1, reply{}, api.OK)
	if p, e := s.Step(2); p != worker.Locking || e != api.OK {
		t.Errorf("%d, %d", p, e)
	}
	state(t, s, 0, 2, 3, 4)
	for w := range 3 {
		steps(t, s, w)
	}
	state(t, s, 0, 0, 0, 0)
	if p, e := s.Step(1); p != worker.Idle || e != api.ErrNone {
		t.Errorf("nothing waits: %d, %d", p, e)
	}
	for _, ticket := range []int{4, 2, 3} { // in any order
		told(t, s, ticket, reply{}, api.OK)
		told(t, s, ticket, reply{}, api.ErrNone)
	}
}

// P26.3: Reply of no ticket; what replies tell.
func TestReply(t *testing.T) {
	s := serve(t, device(t, 1))
	for _, ticket := range []int{math.MinInt, -1, 0, 1, math.MaxInt} {
		told(t, s, ticket, reply{}, api.ErrNone)
	}
	for i, j := range []job{open(0), mkdir(1, "/d"), mkdir(1, "/e"), mkdir(2, "/d"), {Kind: worker.Ack, Gen: 1, Seq: 9}, mkdir(1, "/d"), mkdir(7, "/d"), {Kind: worker.Ack, Gen: 2}, call(3, req{}), {Kind: worker.Close, Gen: 1}} {
		submit(t, s, j, i+1, api.OK)
		steps(t, s, 0)
	}
	for i, want := range []reply{
		{}, {R: api.Result{A: 2}}, {Class: class.Done, R: api.Result{A: 2}}, {R: api.Result{Err: api.ErrExist}}, {Mark: 2}, {Class: class.Stale}, {Class: class.Gap}, {Err: api.ErrClosed}, {Err: api.ErrArg}, {},
	} {
		told(t, s, i+1, want, api.OK)
		told(t, s, i+1, reply{}, api.ErrNone)
	}
}

// P26.3: Query, while a job of the session waits, or is done, and behind it.
func TestQuery(t *testing.T) {
	s := serve(t, device(t, 2))
	for _, i := range []int{math.MinInt, -1, 4, math.MaxInt} {
		query(t, s, i, 1, 1, class.New, api.Result{}, api.ErrArg)
	}
	query(t, s, 0, 1, 1, class.New, api.Result{}, api.ErrClosed)
	query(t, s, 0, 1, 0, class.New, api.Result{}, api.ErrArg)
	submit(t, s, open(0), 1, api.OK)
	query(t, s, 0, 1, 0, class.New, api.Result{}, api.ErrBusy)
	query(t, s, 4, 1, 0, class.New, api.Result{}, api.ErrArg)
	query(t, s, 1, 1, 1, class.New, api.Result{}, api.ErrClosed)
	steps(t, s, 1)
	query(t, s, 0, 1, 0, class.New, api.Result{}, api.ErrArg)
	query(t, s, 0, 2, 1, class.New, api.Result{}, api.ErrClosed)
	submit(t, s, mkdir(1, "/d"), 2, api.OK)
	for {
		query(t, s, 0, 1, 1, class.New, api.Result{}, api.ErrBusy)
		if p, _ := s.Step(0); p == worker.Ending {
			break
		}
	}
	query(t, s, 0, 1, 1, class.Done, api.Result{A: 2}, api.OK)
	query(t, s, 0, 1, 2, class.New, api.Result{}, api.OK)
	query(t, s, 0, 1, 5, class.Gap, api.Result{}, api.OK)
	submit(t, s, job{Kind: worker.Ack, Gen: 1, Seq: 1}, 3, api.OK)
	steps(t, s, 1)
	query(t, s, 0, 1, 1, class.Stale, api.Result{}, api.OK)
}

// R4, P26.3: of no server.
func TestNoServer(t *testing.T) {
	var none *server.Server
	submit(t, none, job{}, 0, api.ErrNil)
	told(t, none, 0, reply{}, api.ErrNil)
	query(t, none, -1, 0, 0, class.New, api.Result{}, api.ErrNil)
	if p, e := none.Step(-1); p != worker.Idle || e != api.ErrNil {
		t.Error("step: ", p, e)
	}
	if none.Workers() != 0 || none.Waiting() != 0 || none.Doing(0) != 0 {
		t.Error("of no server something is told")
	}
}

// P26.4, W1, W5: a call that is submitted as often as one likes is done once, and told the same; all jobs come to an end, and what a reply tells is sure.
func TestOnce(t *testing.T) {
	seed := uint64(12)
	next := func(n int) int {
		seed = seed*6364136223846793005 + 1442695040888963407
		return int((seed >> 33) % uint64(n))
	}
	d := device(t, 3)
	s := serve(t, d)
	submit(t, s, open(0), 1, api.OK)
	submit(t, s, call(1, req{Kind: api.ReqOpen, Path: "/f", Flags: api.Create}), 2, api.OK)
	steps(t, s, 0)
	steps(t, s, 0)
	told(t, s, 1, reply{}, api.OK)
	told(t, s, 2, reply{R: api.Result{B: 2}}, api.OK)
	for seq := uint64(2); seq < 60; seq++ {
		// Each call goes on by one byte: its place is how often any was done.
		want := api.Result{A: 1, B: seq - 1}
		tickets := map[int]bool{}
		for range 1 + next(5) {
			n, e := s.Submit(call(seq, req{Kind: api.ReqWrite, Data: "x"}))
			if e != api.OK || tickets[n] {
				t.Fatal(n, e)
			}
			tickets[n] = true
		}
		news := 0
		for rounds := 0; len(tickets) > 0; rounds++ {
			if rounds > 5000 {
				t.Fatal("jobs do not end")
			}
			s.Step(next(3))
			for n := range tickets {
				r, e := s.Reply(n)
				if e == api.ErrBusy {
					continue
				}
				if e != api.OK || r.R != want || r.Class > class.Done {
					t.Fatalf("the call %d: %v, %d, not %v", seq, r, e, want)
				}
				if r.Class == class.New {
					news++
				}
				sure, _, e := class.Of(view.New(d.Sure()), 0, 1, seq)
				if sure != class.Done || e != api.OK {
					t.Fatalf("the call %d is not sure: %d, %d", seq, sure, e)
				}
				told(t, s, n, reply{}, api.ErrNone)
				delete(tickets, n)
			}
		}
		if news != 1 {
			t.Fatalf("the call %d was new %d times", seq, news)
		}
		query(t, s, 0, 1, seq, class.Done, want, api.OK)
		n, e := s.Submit(job{Kind: worker.Ack, Gen: 1, Seq: seq})
		if e != api.OK {
			t.Fatal(e)
		}
		steps(t, s, next(3))
		told(t, s, n, reply{Mark: seq}, api.OK)
	}
}

package lock_test

import (
	"math"
	"slices"
	"testing"

	"grommet/api"
	"grommet/lock"
)

// table of so many workers.
func table(t *testing.T, workers int) *lock.Table {
	t.Helper()
	x, e := lock.New(workers)
	if e != api.OK || x == nil {
		t.Fatalf("a table of %d: %d", workers, e)
	}
	return x
}

func want(t *testing.T, x *lock.Table, w, l int, is bool, error api.Errno) {
	t.Helper()
	if got, e := x.Want(w, l); got != is || e != error {
		t.Errorf("Want %d, %d: %v, %d, not %v, %d", w, l, got, e, is, error)
	}
}

func give(t *testing.T, x *lock.Table, w int, want ...int) {
	t.Helper()
	if got := x.Give(w); !slices.Equal(got, want) {
		t.Errorf("Give %d: %v, not %v", w, got, want)
	}
}

// holds holds all that a worker holds, and waits for (-1: none), against what it must.
func holds(t *testing.T, x *lock.Table, w, waits int, held ...int) {
	t.Helper()
	if got := x.Held(w); !slices.Equal(got, held) {
		t.Errorf("Held %d: %v, not %v", w, got, held)
	}
	for l := range lock.Many {
		if x.Holds(w, l) != slices.Contains(held, l) {
			t.Errorf("Holds %d, %d: %v", w, l, x.Holds(w, l))
		}
	}
	l, is := x.Waits(w)
	if is != (waits >= 0) || l != max(waits, 0) {
		t.Errorf("Waits %d: %d, %v, not %d", w, l, is, waits)
	}
}

func queue(t *testing.T, x *lock.Table, l int, want ...int) {
	t.Helper()
	if got := x.Queue(l); !slices.Equal(got, want) {
		t.Errorf("Queue %d: %v, not %v", l, got, want)
	}
}

// P22.1: numbers, and New.
func TestNumbers(t *testing.T) {
	if lock.Names != 4 || lock.Blocks != 69 || lock.Many != 70 {
		t.Errorf("%d, %d, %d", lock.Names, lock.Blocks, lock.Many)
	}
	for i, l := range map[int]int{0: 0, 3: 3, 4: -1, -1: -1, math.MinInt: -1, math.MaxInt: -1} {
		if lock.Session(i) != l {
			t.Errorf("Session %d: %d", i, lock.Session(i))
		}
	}
	for n, l := range map[int]int{0: 5, 1: 6, 63: 68, 64: -1, -1: -1, math.MinInt: -1, math.MaxInt: -1} {
		if lock.Inode(n) != l {
			t.Errorf("Inode %d: %d", n, lock.Inode(n))
		}
	}
	for _, n := range []int{math.MinInt, -1, 0, 5, math.MaxInt} {
		if x, e := lock.New(n); x != nil || e != api.ErrArg {
			t.Errorf("New %d: %d", n, e)
		}
	}
	for n := 1; n <= 4; n++ {
		x := table(t, n)
		for w := range n {
			holds(t, x, w, -1)
		}
		for l := range lock.Many {
			queue(t, x, l)
		}
		want(t, x, n-1, 69, true, api.OK)
		want(t, x, n, 0, false, api.ErrArg)
	}
}

// P22.2, P22.3: the chapter's example.
func TestExample(t *testing.T) {
	x := table(t, 2)
	want(t, x, 0, 4, true, api.OK)
	want(t, x, 1, 4, false, api.OK)
	want(t, x, 0, 3, false, api.ErrArg)
	give(t, x, 0, 1)
	holds(t, x, 1, -1, 4)
	holds(t, x, 0, -1)
}

// P22.2: errors, in their order; what is refused turns nothing.
func TestWantRefused(t *testing.T) {
	x := table(t, 3)
	want(t, x, 0, 10, true, api.OK)
	want(t, x, 1, 5, true, api.OK)
	want(t, x, 1, 10, false, api.OK)
	for _, w := range []int{math.MinInt, -1, 3, math.MaxInt} {
		want(t, x, w, 20, false, api.ErrArg)
	}
	for _, l := range []int{math.MinInt, -1, 70, math.MaxInt} {
		want(t, x, 0, l, false, api.ErrArg)
		want(t, x, 1, l, false, api.ErrArg)
		want(t, x, 2, l, false, api.ErrArg)
	}
	for _, l := range []int{0, 9, 10} {
		want(t, x, 0, l, false, api.ErrArg)
	}
	want(t, x, 1, 5, false, api.ErrArg) // not above what it holds, though it waits
	want(t, x, 1, 6, false, api.ErrState)
	want(t, x, 1, 10, false, api.ErrState)
	want(t, x, 1, 69, false, api.ErrState)
	holds(t, x, 0, -1, 10)
	holds(t, x, 1, 10, 5)
	holds(t, x, 2, -1)
	queue(t, x, 10, 1)
	queue(t, x, 69)
	want(t, x, 0, 11, true, api.OK)
	want(t, x, 0, 69, true, api.OK)
	want(t, x, 0, 69, false, api.ErrArg)
	holds(t, x, 0, -1, 10, 11, 69)
}

// P22.2, P22.3: who waits comes in order.
func TestQueue(t *testing.T) {
	x := table(t, 4)
	want(t, x, 2, 0, true, api.OK)
	for _, w := range []int{3, 0, 1} {
		want(t, x, w, 0, false, api.OK)
	}
	queue(t, x, 0, 3, 0, 1)
	give(t, x, 2, 3)
	queue(t, x, 0, 0, 1)
	want(t, x, 2, 0, false, api.OK)
	give(t, x, 3, 0)
	give(t, x, 1) // it waits no more, and holds nothing
	holds(t, x, 1, -1)
	queue(t, x, 0, 2)
	give(t, x, 0, 2)
	give(t, x, 2)
	queue(t, x, 0)
	holds(t, x, 2, -1)
}

// P22.3: of several locks that are given back each goes to its own, told by the locks, rising.
func TestGiveMany(t *testing.T) {
	x := table(t, 4)
	for _, l := range []int{1, 5, 30, 69} {
		want(t, x, 0, l, true, api.OK)
	}
	want(t, x, 1, 69, false, api.OK)
	want(t, x, 2, 5, false, api.OK)
	want(t, x, 3, 5, false, api.OK)
	give(t, x, 1)
	want(t, x, 1, 30, false, api.OK)
	give(t, x, 0, 2, 1)
	holds(t, x, 2, -1, 5)
	holds(t, x, 1, -1, 30)
	holds(t, x, 3, 5)
	holds(t, x, 0, -1)
	want(t, x, 0, 69, true, api.OK)
	want(t, x, 0, 70, false, api.ErrArg)
}

// P22.3: a worker that waits and holds gives both.
func TestGiveWaiting(t *testing.T) {
	x := table(t, 3)
	want(t, x, 0, 9, true, api.OK)
	want(t, x, 1, 3, true, api.OK)
	want(t, x, 2, 3, false, api.OK)
	want(t, x, 1, 9, false, api.OK)
	give(t, x, 1, 2)
	queue(t, x, 9)
	give(t, x, 0)
	holds(t, x, 2, -1, 3)
	holds(t, x, 1, -1)
}

// P22.3: lists are new memory; of no worker, and no lock, nothing.
func TestLists(t *testing.T) {
	x := table(t, 3)
	want(t, x, 0, 1, true, api.OK)
	want(t, x, 0, 2, true, api.OK)
	want(t, x, 1, 1, false, api.OK)
	want(t, x, 2, 1, false, api.OK)
	l := x.Queue(1)
	l[0] = 9
	m := x.Held(0)
	m[0] = 9
	queue(t, x, 1, 1, 2)
	holds(t, x, 0, -1, 1, 2)
	l = x.Queue(1)
	give(t, x, 0, 1)
	give(t, x, 1, 2)
	if !slices.Equal(l, []int{1, 2}) {
		t.Errorf("what was told is turned: %v", l)
	}
	for _, n := range []int{math.MinInt, -1, 3, 70, math.MaxInt} {
		give(t, x, n)
		if x.Holds(n, 1) || len(x.Held(n)) != 0 {
			t.Errorf("the worker %d holds", n)
		}
		if l, is := x.Waits(n); l != 0 || is {
			t.Errorf("the worker %d waits", n)
		}
	}
	for _, l := range []int{math.MinInt, -1, 70, math.MaxInt} {
		queue(t, x, l)
		if x.Holds(0, l) || x.Holds(-1, l) {
			t.Errorf("the lock %d is held", l)
		}
	}
}

// R4, P22.3: of no table.
func TestNoTable(t *testing.T) {
	var none *lock.Table
	want(t, none, -1, -1, false, api.ErrNil)
	give(t, none, 0)
	queue(t, none, 0)
	l, is := none.Waits(0)
	if none.Holds(0, 0) || len(none.Held(0)) != 0 || l != 0 || is {
		t.Error("of no table something is told")
	}
}

// P22.4: a lock has one holder at most, is never free while somebody waits, goes by turns; somebody always may go on.
func TestWhateverIsWanted(t *testing.T) {
	seed := uint64(6)
	next := func(n int) int {
		seed = seed*6364136223846793005 + 1442695040888963407
		return int((seed >> 33) % uint64(n))
	}
	for range 50 {
		x := table(t, 4)
		queues := map[int][]int{}
		for range 300 {
			w, l := next(4), []int{0, 1, 4, 5, 6, 69}[next(6)]
			if next(4) > 0 {
				held := x.Held(w)
				_, waits := x.Waits(w)
				is, e := x.Want(w, l)
				if may := !waits && (len(held) == 0 || held[len(held)-1] < l); may != (e == api.OK) {
					t.Fatalf("Want %d, %d: %v, %d", w, l, is, e)
				}
				if e == api.OK && !is {
					queues[l] = append(queues[l], w)
				}
			} else {
				for l, q := range queues {
					queues[l] = slices.DeleteFunc(q, func(who int) bool { return who == w })
				}
				for _, who := range x.Give(w) {
					l := x.Held(who)[len(x.Held(who))-1]
					if len(queues[l]) == 0 || queues[l][0] != who {
						t.Fatalf("%d comes out of turn, of %v", who, queues[l])
					}
					queues[l] = queues[l][1:]
				}
			}
			whole(t, x, queues)
		}
	}
}

// whole holds what P22.4 says of a table, and its queues against these.
func whole(t *testing.T, x *lock.Table, queues map[int][]int) {
	t.Helper()
	waiting, goesOn := false, false
	for w := range 4 {
		_, waits := x.Waits(w)
		waiting = waiting || waits
		goesOn = goesOn || !waits && len(x.Held(w)) > 0
	}
	if waiting && !goesOn {
		t.Fatal("nobody may go on")
	}
	for l := range lock.Many {
		holders := 0
		for w := range 4 {
			if x.Holds(w, l) {
				holders++
			}
		}
		if q := x.Queue(l); holders > 1 || holders == 0 && len(q) > 0 || !slices.Equal(q, queues[l]) {
			t.Fatalf("the lock %d: %d hold it, %v wait, not %v", l, holders, q, queues[l])
		}
	}
}

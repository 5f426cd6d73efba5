package pmem_test

import (
	"math"
	"slices"
	"testing"

	"grommet/api"
	"grommet/pmem"
)

// device of so many words, or the test ends.
func device(t *testing.T, words int) *pmem.Device {
	t.Helper()
	d, e := pmem.New(words)
	if e != api.OK || d == nil {
		t.Fatalf("a device of %d words: %d", words, e)
	}
	return d
}

// do ends the test at the first error.
func do(t *testing.T, steps ...api.Errno) {
	t.Helper()
	for i, e := range steps {
		if e != api.OK {
			t.Fatalf("step %d: %d", i, e)
		}
	}
}

// is holds a device's words 0, 1, .. against those that must be seen, and sure.
func is(t *testing.T, d *pmem.Device, what string, seen, sure []uint64, loose int) {
	t.Helper()
	if got := d.Seen()[:len(seen)]; !slices.Equal(got, seen) {
		t.Errorf("%s: seen is %d, not %d", what, got, seen)
	}
	if got := d.Sure()[:len(sure)]; !slices.Equal(got, sure) {
		t.Errorf("%s: sure is %d, not %d", what, got, sure)
	}
	if got := d.Loose(); got != loose {
		t.Errorf("%s: %d words are loose, not %d", what, got, loose)
	}
}

// P3.1: New, Words.
func TestNew(t *testing.T) {
	for _, n := range []int{8, 16, 536, api.MaxWords - 8, api.MaxWords} {
		d := device(t, n)
		if d.Words() != n || len(d.Seen()) != n || len(d.Sure()) != n || d.Loose() != 0 {
			t.Errorf("%d words: %d", n, d.Words())
		}
		if slices.Max(d.Seen()) != 0 || slices.Max(d.Sure()) != 0 {
			t.Errorf("%d words: not all are 0", n)
		}
	}
	for _, n := range []int{math.MinInt, -8, -1, 0, 1, 7, 9, 12, api.MaxWords - 1, api.MaxWords + 1, api.MaxWords + 8, math.MaxInt} {
		if d, e := pmem.New(n); d != nil || e != api.ErrArg {
			t.Errorf("%d words: %d", n, e)
		}
	}
}

// P3.1: Load, Store.
func TestLoadStore(t *testing.T) {
	d := device(t, 16)
	for at := range 16 {
		do(t, d.Store(at, uint64(at)+100))
		if w, e := d.Load(at); w != uint64(at)+100 || e != api.OK {
			t.Errorf("%d: %d, %d", at, w, e)
		}
		if d.Loose() != at+1 {
			t.Errorf("%d words are loose, not %d", d.Loose(), at+1)
		}
	}
	do(t, d.Store(3, math.MaxUint64), d.Store(3, 7))
	if w, _ := d.Load(3); w != 7 || d.Loose() != 16 {
		t.Errorf("stored twice: %d", w)
	}
	before := d.Seen()
	for _, at := range []int{math.MinInt, -1, 16, math.MaxInt} {
		if w, e := d.Load(at); w != 0 || e != api.ErrRange {
			t.Errorf("load of %d: %d, %d", at, w, e)
		}
		if e := d.Store(at, 5); e != api.ErrRange {
			t.Errorf("store of %d: %d", at, e)
		}
	}
	if !slices.Equal(d.Seen(), before) || d.Loose() != 16 {
		t.Error("what is refused turns words")
	}
	if slices.Max(d.Sure()) != 0 {
		t.Error("what is stored alone is sure")
	}
}

// P3.1: a word that is stored is loose, though its value is the same.
func TestStoreSame(t *testing.T) {
	d := device(t, 8)
	do(t, d.Store(2, 0))
	is(t, d, "0 over 0", []uint64{0, 0, 0}, []uint64{0, 0, 0}, 1)
	do(t, d.Flush(0), d.Store(2, 0), d.Fence())
	is(t, d, "0 over a flush of 0", nil, nil, 1)
}

// P3.2: Flush, Fence.
func TestFlushFence(t *testing.T) {
	d := device(t, 16)
	do(t, d.Store(0, 1), d.Store(7, 2), d.Store(8, 3), d.Flush(0))
	is(t, d, "flushed", []uint64{1}, []uint64{0}, 3)
	do(t, d.Fence())
	is(t, d, "fenced", []uint64{1, 0, 0, 0, 0, 0, 0, 2, 3}, []uint64{1, 0, 0, 0, 0, 0, 0, 2, 0}, 1)
	do(t, d.Fence())
	is(t, d, "fenced without a flush", nil, []uint64{1, 0, 0, 0, 0, 0, 0, 2, 0}, 1)
	do(t, d.Flush(1), d.Flush(1), d.Fence())
	is(t, d, "the other line", nil, []uint64{1, 0, 0, 0, 0, 0, 0, 2, 3}, 0)
	for _, line := range []int{math.MinInt, -1, 2, 8, math.MaxInt} {
		if e := d.Flush(line); e != api.ErrRange {
			t.Errorf("flush of %d: %d", line, e)
		}
		if e := d.Evict(line); e != api.ErrRange {
			t.Errorf("evict of %d: %d", line, e)
		}
	}
}

// P3.1, P3.2: what is stored behind a flush stays loose, and the flush keeps the elder value.
func TestStoreBehindFlush(t *testing.T) {
	d := device(t, 8)
	do(t, d.Store(3, 7), d.Flush(0), d.Store(3, 8), d.Fence())
	is(t, d, "fenced", []uint64{0, 0, 0, 8}, []uint64{0, 0, 0, 7}, 1)
	do(t, d.Fence())
	is(t, d, "fenced again: it is flushed no more", nil, []uint64{0, 0, 0, 7}, 1)
	do(t, d.Crash(1))
	is(t, d, "lost: it was flushed no more", []uint64{0, 0, 0, 7}, []uint64{0, 0, 0, 7}, 0)
	do(t, d.Store(3, 9), d.Flush(0), d.Store(3, 10), d.Store(3, 11), d.Flush(0), d.Fence())
	is(t, d, "flushed again: what is seen then", []uint64{0, 0, 0, 11}, []uint64{0, 0, 0, 11}, 0)
	do(t, d.Store(3, 12), d.Flush(0), d.Fence(), d.Store(3, 13), d.Fence())
	is(t, d, "stored behind the fence", []uint64{0, 0, 0, 13}, []uint64{0, 0, 0, 12}, 1)
}

// P3.2: what was not loose is not flushed.
func TestFlushOfLooseAlone(t *testing.T) {
	d := device(t, 8)
	do(t, d.Store(1, 5), d.Flush(0), d.Fence(), d.Flush(0), d.Store(1, 6), d.Fence())
	is(t, d, "stored behind a flush of nothing", []uint64{0, 6}, []uint64{0, 5}, 1)
	do(t, d.Crash(1))
	is(t, d, "and lost", []uint64{0, 5}, []uint64{0, 5}, 0)
}

// P3.2: Evict.
func TestEvict(t *testing.T) {
	d := device(t, 16)
	do(t, d.Store(1, 5), d.Store(2, 6), d.Flush(0), d.Store(2, 7), d.Store(9, 8), d.Evict(0))
	is(t, d, "evicted", []uint64{0, 5, 7}, []uint64{0, 5, 7, 0, 0, 0, 0, 0, 0, 0}, 1)
	do(t, d.Fence())
	is(t, d, "evicted: flushed no more", nil, []uint64{0, 5, 7}, 1)
	do(t, d.Store(1, 9), d.Crash(1))
	is(t, d, "evicted, stored, lost", []uint64{0, 5, 7}, []uint64{0, 5, 7}, 0)
}

// P3.3: what each pick takes of a word that is loose, flushed or not.
func TestCrashPicks(t *testing.T) {
	for pick, want := range map[uint8][3]uint64{0: {1, 1, 1}, 1: {1, 3, 4}, 2: {2, 3, 5}, 3: {1, 1, 1}, 4: {1, 3, 4}, 5: {2, 3, 5}, 255: {1, 1, 1}, 254: {2, 3, 5}, 253: {1, 3, 4}} {
		d := device(t, 24)
		do(t, d.Store(0, 1), d.Store(8, 1), d.Store(16, 1), d.Flush(0), d.Flush(1), d.Flush(2), d.Fence())
		do(t, d.Store(0, 2), d.Store(8, 3), d.Store(16, 4), d.Flush(1), d.Flush(2), d.Store(16, 5))
		do(t, d.Crash(pick, pick, pick))
		got := [3]uint64{d.Seen()[0], d.Seen()[8], d.Seen()[16]}
		if got != want || !slices.Equal(d.Seen(), d.Sure()) || d.Loose() != 0 {
			t.Errorf("pick %d: %d, not %d", pick, got, want)
		}
		do(t, d.Fence())
		if !slices.Equal(d.Seen(), d.Sure()) {
			t.Errorf("pick %d: something is flushed still", pick)
		}
	}
}

// P3.3: picks go to the loose words alone, from the first one on; one that is wanting is 0.
func TestCrashOrder(t *testing.T) {
	fill := func() *pmem.Device {
		d := device(t, 24)
		for _, at := range []int{20, 3, 9, 5} {
			do(t, d.Store(at, uint64(at)))
		}
		return d
	}
	for _, c := range []struct {
		picks []uint8
		kept  []int
	}{
		{nil, nil},
		{[]uint8{2}, []int{3}},
		{[]uint8{0, 2}, []int{5}},
		{[]uint8{0, 0, 2}, []int{9}},
		{[]uint8{1, 1, 1, 2}, []int{20}},
		{[]uint8{2, 0, 0, 2, 2, 2}, []int{3, 20}},
		{[]uint8{2, 2, 2, 2}, []int{3, 5, 9, 20}},
	} {
		d, want, before := fill(), make([]uint64, 24), slices.Clone(c.picks)
		for _, at := range c.kept {
			want[at] = uint64(at)
		}
		do(t, d.Crash(c.picks...))
		if !slices.Equal(d.Seen(), want) || !slices.Equal(d.Sure(), want) || d.Loose() != 0 {
			t.Errorf("picks %d: %d, not %d", c.picks, d.Seen(), want)
		}
		if !slices.Equal(c.picks, before) {
			t.Errorf("picks %d were turned", before)
		}
	}
}

// P3.3: Sure and Seen are new memory.
func TestListsAreNew(t *testing.T) {
	d := device(t, 8)
	do(t, d.Store(0, 1))
	clear(d.Seen())
	d.Sure()[1] = 9
	is(t, d, "behind a turn of what was told", []uint64{1, 0}, []uint64{0, 0}, 1)
}

// R4, P3.3: of no device.
func TestNoDevice(t *testing.T) {
	var none *pmem.Device
	if w, e := none.Load(0); w != 0 || e != api.ErrNil {
		t.Error("load: ", w, e)
	}
	for i, e := range []api.Errno{none.Store(-1, 1), none.Flush(-1), none.Fence(), none.Evict(-1), none.Crash(), none.Crash(1, 2)} {
		if e != api.ErrNil {
			t.Errorf("call %d: %d", i, e)
		}
	}
	if none.Words() != 0 || none.Loose() != 0 || len(none.Sure()) != 0 || len(none.Seen()) != 0 {
		t.Error("of no device something is told")
	}
}

// P3.4: whatever is picked, a word that is not loose stays, and what was stored, flushed, fenced is sure; all others are one of what they may be.
func TestWhateverIsPicked(t *testing.T) {
	seed := uint64(1)
	next := func(n int) int {
		seed = seed*6364136223846793005 + 1442695040888963407
		return int(seed >> 33 % uint64(n))
	}
	for range 300 {
		d := device(t, 32)
		var may [32]map[uint64]bool // what a loss of power may leave of each word
		for i := range may {
			may[i] = map[uint64]bool{0: true}
		}
		flushed := map[int]uint64{} // word, and its value at its flush
		for step := range 40 {
			at, v := next(32), uint64(step+1)
			switch next(5) {
			case 0, 1:
				do(t, d.Store(at, v))
				may[at][v] = true
			case 2:
				do(t, d.Flush(at/8))
				for i := at / 8 * 8; i < at/8*8+8; i++ {
					flushed[i] = d.Seen()[i]
				}
			case 3:
				do(t, d.Fence())
				for i, v := range flushed {
					may[i] = map[uint64]bool{v: true, d.Seen()[i]: true}
				}
				clear(flushed)
			case 4:
				do(t, d.Evict(at/8))
				for i := at / 8 * 8; i < at/8*8+8; i++ {
					may[i] = map[uint64]bool{d.Seen()[i]: true}
					delete(flushed, i)
				}
			}
		}
		var picks []uint8
		for range next(40) {
			picks = append(picks, uint8(next(256)))
		}
		do(t, d.Crash(picks...))
		for i, v := range d.Seen() {
			if !may[i][v] {
				t.Fatalf("word %d is %d, which it may not be: %v", i, v, may[i])
			}
		}
	}
}

package class_test

import (
	"math"
	"slices"
	"testing"

	"grommet/api"
	"grommet/class"
	"grommet/layout"
	"grommet/slot"
	"grommet/view"
)

var g = layout.Geometry{Workers: 1, Inodes: 2, Blocks: 2}

// with: a view of a new device whose session i has this head; nothing is put.
func with(t *testing.T, i int, h slot.Head, calls ...uint64) *view.View {
	t.Helper()
	v := view.New(layout.Format(g))
	if e := slot.Put(v, i, h); e != api.OK {
		t.Fatal(e)
	}
	for _, seq := range calls {
		if e := slot.Save(v, i, int(seq%4), seq, result(seq)); e != api.OK {
			t.Fatal(e)
		}
	}
	return view.New(v.Flat())
}

// result of a call, by its number.
func result(seq uint64) api.Result {
	return api.Result{Err: api.Errno(seq % 3), A: seq, B: seq + 1, Data: "data"}
}

// of holds what Of tells against what it must.
func of(t *testing.T, v *view.View, i int, gen, seq uint64, want class.Class, error api.Errno) {
	t.Helper()
	var r api.Result
	if want == class.Done {
		r = result(seq)
	}
	if c, got, e := class.Of(v, i, gen, seq); c != want || e != error || got != r {
		t.Errorf("Of %d, %d, %d: %d, %v, %d, not %d, %d", i, gen, seq, c, got, e, want, error)
	}
}

func ack(t *testing.T, v *view.View, i int, gen, to, want uint64, error api.Errno) {
	t.Helper()
	if m, e := class.Ack(v, i, gen, to); m != want || e != error {
		t.Errorf("Ack %d, %d, %d: %d, %d, not %d, %d", i, gen, to, m, e, want, error)
	}
}

func open(t *testing.T, v *view.View, i int, gen uint64, want class.Class, error api.Errno) {
	t.Helper()
	if c, e := class.Open(v, i, gen); c != want || e != error {
		t.Errorf("Open %d, %d: %d, %d, not %d, %d", i, gen, c, e, want, error)
	}
}

func end(t *testing.T, v *view.View, i int, gen uint64, want class.Class, error api.Errno) {
	t.Helper()
	if c, e := class.Close(v, i, gen); c != want || e != error {
		t.Errorf("Close %d, %d: %d, %d, not %d, %d", i, gen, c, e, want, error)
	}
}

// still holds that a view has no writes.
func still(t *testing.T, v *view.View) {
	t.Helper()
	if l := v.Writes(); len(l) != 0 {
		t.Errorf("put is %v", l)
	}
}

// P11.1 to P11.4: the chapter's example.
func TestExample(t *testing.T) {
	if class.New != 0 || class.Done != 1 || class.Stale != 2 || class.Gap != 3 {
		t.Error("the classes have other numbers")
	}
	v := view.New(layout.Format(g))
	open(t, v, 0, 2, class.Gap, api.OK)
	open(t, v, 0, 1, class.New, api.OK)
	open(t, v, 0, 1, class.Done, api.OK)
	of(t, v, 0, 1, 1, class.New, api.OK)
	of(t, v, 0, 1, 5, class.Gap, api.OK)
	slot.Save(v, 0, 1, 1, result(1))
	of(t, v, 0, 1, 1, class.Done, api.OK)
	ack(t, v, 0, 1, 3, 1, api.OK)
	of(t, v, 0, 1, 1, class.Stale, api.OK)
	of(t, v, 0, 1, 5, class.New, api.OK)
	of(t, v, 0, 2, 1, class.New, api.ErrClosed)
	end(t, v, 0, 1, class.New, api.OK)
	end(t, v, 0, 1, class.Done, api.OK)
	of(t, v, 0, 1, 5, class.New, api.ErrClosed)
	open(t, v, 0, 1, class.Stale, api.OK)
	open(t, v, 0, 3, class.Gap, api.OK)
	open(t, v, 0, 2, class.New, api.OK)
}

// P11.1, P11.5: numbers around the mark.
func TestOf(t *testing.T) {
	v := with(t, 2, slot.Head{Open: true, Gen: 7, Mark: 10}, 12, 13, 14)
	for seq, want := range map[uint64]class.Class{1: class.Stale, 9: class.Stale, 10: class.Stale, 11: class.New, 12: class.Done, 13: class.Done, 14: class.Done, 15: class.Gap, 16: class.Gap, api.MaxSeq: class.Gap} {
		of(t, v, 2, 7, seq, want, api.OK)
	}
	for _, gen := range []uint64{0, 6, 8, math.MaxUint64} {
		of(t, v, 2, gen, 12, class.New, api.ErrClosed)
	}
	of(t, v, 1, 7, 1, class.New, api.ErrClosed)
	of(t, v, 1, 0, 1, class.New, api.ErrClosed)
	still(t, v)
	// A slot that has another number of the same remainder.
	v = with(t, 0, slot.Head{Open: true, Gen: 1, Mark: 4}, 1, 4)
	of(t, v, 0, 1, 5, class.New, api.OK)
	of(t, v, 0, 1, 8, class.New, api.OK)
	v = with(t, 0, slot.Head{Open: true, Gen: 0, Mark: api.MaxSeq - 4}, api.MaxSeq)
	of(t, v, 0, 0, api.MaxSeq, class.Done, api.OK)
	// Marks that no session comes to.
	v = with(t, 0, slot.Head{Open: true, Gen: 1, Mark: math.MaxUint64 - 1})
	of(t, v, 0, 1, 1, class.Stale, api.OK)
	of(t, v, 0, 1, api.MaxSeq, class.Stale, api.OK)
}

// spoil a word of a view, and make it the image.
func spoil(v *view.View, at int, w uint64) *view.View {
	v.Put(at, w)
	return view.New(v.Flat())
}

// P11.1 to P11.4: errors, in their order.
func TestErrors(t *testing.T) {
	every := func(v *view.View, i int, gen, seq uint64, want api.Errno) {
		t.Helper()
		of(t, v, i, gen, seq, class.New, want)
		ack(t, v, i, gen, seq, 0, want)
		open(t, v, i, gen, class.New, want)
		end(t, v, i, gen, class.New, want)
		if v != nil {
			still(t, v)
		}
	}
	v := with(t, 0, slot.Head{Open: true, Gen: 1})
	heads := spoil(with(t, 0, slot.Head{}), layout.SessionAt(0), 2)
	for _, i := range []int{math.MinInt, -1, 4, math.MaxInt} {
		every(v, i, 1, 1, api.ErrArg)
		every(nil, i, 0, math.MaxUint64, api.ErrNil)
	}
	every(v, 0, math.MaxUint64, math.MaxUint64, api.ErrArg)
	every(v, 0, api.MaxSeq+1, api.MaxSeq+1, api.ErrArg)
	every(view.New(nil), 0, api.MaxSeq+1, api.MaxSeq+1, api.ErrArg)
	every(heads, 0, api.MaxSeq+1, api.MaxSeq+1, api.ErrArg)
	every(view.New(nil), 0, 1, 1, api.ErrRange)
	every(view.New(v.Flat()[:71]), 0, 1, 1, api.ErrRange)
	every(heads, 0, 1, 1, api.ErrBytes)
	of(t, v, 0, 1, 0, class.New, api.ErrArg)
	open(t, v, 0, 0, class.New, api.ErrArg)
	end(t, v, 0, 0, class.New, api.ErrArg)
	ack(t, v, 0, 1, 0, 0, api.OK)
	ack(t, v, 0, 1, api.MaxSeq, 0, api.OK)
	ack(t, v, 0, 2, 0, 0, api.ErrClosed)
	ack(t, v, 1, 0, 0, 0, api.ErrClosed)
}

// P11.1: a slot that says nothing, of a number that is asked for alone.
func TestSpoiltSlot(t *testing.T) {
	v := spoil(with(t, 0, slot.Head{Open: true, Gen: 1, Mark: 4}, 5, 6, 7), layout.SlotAt(0, 2)+1, 25)
	of(t, v, 0, 1, 6, class.New, api.ErrBytes)
	of(t, v, 0, 1, 2, class.Stale, api.OK)
	of(t, v, 0, 1, 10, class.Gap, api.OK)
	of(t, v, 0, 1, 5, class.Done, api.OK)
	of(t, v, 0, 3, 6, class.New, api.ErrClosed)
	ack(t, v, 0, 1, 5, 5, api.OK)
	if l := v.Writes(); !slices.Equal(l, []api.Write{{At: layout.SessionAt(0) + 2, Value: 5}}) {
		t.Errorf("put is %v", l)
	}
	v.Drop()
	ack(t, v, 0, 1, 6, 0, api.ErrBytes)
	ack(t, v, 0, 1, 7, 0, api.ErrBytes)
	still(t, v)
}

// P11.2: Ack goes as far as calls are done, and not above what is asked.
func TestAck(t *testing.T) {
	for _, c := range []struct {
		calls    []uint64
		to, want uint64
	}{
		{[]uint64{5, 6, 7, 8}, 8, 8}, {[]uint64{5, 6, 7, 8}, 100, 8}, {[]uint64{5, 6, 7, 8}, 6, 6}, {[]uint64{5, 6, 8}, 8, 6}, {[]uint64{6, 7, 8}, 8, 4},
		{[]uint64{5, 6, 7, 8}, 4, 4}, {[]uint64{5, 6, 7, 8}, 3, 4}, {[]uint64{5, 6, 7, 8}, 0, 4}, {nil, 9, 4}, {[]uint64{1, 2, 3, 4}, 9, 4}, {[]uint64{9, 6, 7, 8}, 9, 4},
	} {
		v := with(t, 3, slot.Head{Open: true, Gen: 2, Mark: 4}, c.calls...)
		ack(t, v, 3, 2, c.to, c.want, api.OK)
		if c.want == 4 {
			still(t, v)
		} else if l := v.Writes(); !slices.Equal(l, []api.Write{{At: layout.SessionAt(3) + 2, Value: c.want}}) {
			t.Errorf("%v to %d: put is %v", c.calls, c.to, l)
		}
		ack(t, v, 3, 2, c.to, c.want, api.OK)
	}
}

// P11.3: Open, by what the session is.
func TestOpen(t *testing.T) {
	for _, c := range []struct {
		h    slot.Head
		gen  uint64
		want class.Class
	}{
		{slot.Head{}, 1, class.New}, {slot.Head{}, 2, class.Gap}, {slot.Head{}, api.MaxSeq, class.Gap},
		{slot.Head{Open: true, Gen: 5}, 5, class.Done}, {slot.Head{Open: true, Gen: 5}, 4, class.Stale}, {slot.Head{Open: true, Gen: 5}, 6, class.Gap}, {slot.Head{Open: true, Gen: 5}, 7, class.Gap},
		{slot.Head{Gen: 5, Mark: 9}, 6, class.New}, {slot.Head{Gen: 5}, 5, class.Stale}, {slot.Head{Gen: 5}, 1, class.Stale}, {slot.Head{Gen: 5}, 7, class.Gap},
		{slot.Head{Gen: api.MaxSeq - 1}, api.MaxSeq, class.New}, {slot.Head{Gen: math.MaxUint64}, 1, class.Stale}, {slot.Head{Open: true, Gen: math.MaxUint64}, 1, class.Stale},
	} {
		v := with(t, 1, c.h, 1, 2, 3, 4)
		for k := range 4 {
			v.Put(layout.DescriptorAt(1, k), 1)
			v.Put(layout.DescriptorAt(1, k)+1, 9)
		}
		v = view.New(v.Flat())
		open(t, v, 1, c.gen, c.want, api.OK)
		if c.want != class.New {
			still(t, v)
			continue
		}
		if h, e := slot.Get(v, 1); h != (slot.Head{Open: true, Gen: c.gen}) || e != api.OK {
			t.Errorf("%v, %d: it is %v, %d", c.h, c.gen, h, e)
		}
		for k := range 4 {
			if seq, _, _ := slot.Load(v, 1, k); seq != 0 || v.Get(layout.DescriptorAt(1, k)) != 0 || v.Get(layout.DescriptorAt(1, k)+1) != 0 {
				t.Errorf("%v, %d: it is not wiped", c.h, c.gen)
			}
		}
		open(t, v, 1, c.gen, class.Done, api.OK)
	}
}

// P11.4: Close, by what the session is; nothing else of it is turned.
func TestClose(t *testing.T) {
	for _, c := range []struct {
		h    slot.Head
		gen  uint64
		want class.Class
	}{
		{slot.Head{Open: true, Gen: 5, Mark: 3}, 5, class.New}, {slot.Head{Open: true, Gen: 5}, 4, class.Stale}, {slot.Head{Open: true, Gen: 5}, 6, class.Gap},
		{slot.Head{Gen: 5}, 5, class.Done}, {slot.Head{Gen: 5}, 4, class.Stale}, {slot.Head{Gen: 5}, 6, class.Gap}, {slot.Head{}, 1, class.Gap},
	} {
		v := with(t, 1, c.h, 4, 5, 6)
		end(t, v, 1, c.gen, c.want, api.OK)
		if c.want != class.New {
			still(t, v)
		} else if l := v.Writes(); !slices.Equal(l, []api.Write{{At: layout.SessionAt(1), Value: 0}}) {
			t.Errorf("put is %v", l)
		}
	}
}

// P11.2 to P11.4: a view that takes no more.
func TestMany(t *testing.T) {
	full := func(h slot.Head, left int, calls ...uint64) *view.View {
		v := with(t, 0, h, calls...)
		for i := range api.MaxWrites - left {
			v.Put(100+i, 0)
		}
		return v
	}
	ack(t, full(slot.Head{Open: true, Gen: 1}, 0, 1), 0, 1, 1, 0, api.ErrMany)
	ack(t, full(slot.Head{Open: true, Gen: 1}, 0), 0, 1, 1, 0, api.OK)
	end(t, full(slot.Head{Open: true, Gen: 1}, 0), 0, 1, class.New, api.ErrMany)
	open(t, full(slot.Head{}, 1), 0, 1, class.New, api.ErrMany)
	open(t, full(slot.Head{}, 2), 0, 1, class.New, api.OK)
	open(t, full(slot.Head{Gen: 1}, 4, 1, 2, 3), 0, 2, class.New, api.ErrMany)
	open(t, full(slot.Head{Gen: 1}, 5, 1, 2, 3), 0, 2, class.New, api.OK)
}

// P11.5: calls that are saved when they are New stay Done with their result till they are acknowledged; a mark never falls, nor goes above a number that is New.
func TestWindow(t *testing.T) {
	seed := uint64(5)
	next := func(n int) int {
		seed = seed*6364136223846793005 + 1442695040888963407
		return int((seed >> 33) % uint64(n))
	}
	v := with(t, 0, slot.Head{Open: true, Gen: 1})
	done, mark := map[uint64]bool{}, uint64(0)
	for range 3000 {
		seq := mark + uint64(next(7))
		if next(3) == 0 {
			got, e := class.Ack(v, 0, 1, seq)
			for mark < seq && done[mark+1] {
				mark++
			}
			if got != mark || e != api.OK {
				t.Fatalf("Ack of %d: %d, %d, not %d", seq, got, e, mark)
			}
		} else if c, _, _ := class.Of(v, 0, 1, seq); c == class.New && seq > 0 {
			slot.Save(v, 0, int(seq%4), seq, result(seq))
			done[seq] = true
		}
		for n := uint64(1); n < mark+8; n++ {
			want := class.New
			switch {
			case n <= mark:
				want = class.Stale
			case n > mark+4:
				want = class.Gap
			case done[n]:
				want = class.Done
			}
			of(t, v, 0, 1, n, want, api.OK)
		}
		if t.Failed() {
			t.FailNow()
		}
	}
}

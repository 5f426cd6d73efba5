package slot_test

import (
	"math"
	"slices"
	"strings"
	"testing"

	"grommet/api"
	"grommet/layout"
	"grommet/slot"
	"grommet/view"
)

var g = layout.Geometry{Workers: 1, Inodes: 2, Blocks: 2}

// fresh: a view of a new device.
func fresh() *view.View {
	return view.New(layout.Format(g))
}

// full: a view of a new device that takes so many words more.
func full(left int) *view.View {
	v := fresh()
	for i := range api.MaxWrites - left {
		v.Put(layout.BlockAt(g, 1)-i, 0)
	}
	return v
}

// puts holds what was put against what must be.
func puts(t *testing.T, what string, v *view.View, want ...api.Write) {
	t.Helper()
	if got := v.Writes(); !slices.Equal(got, want) {
		t.Errorf("%s: put is %v, not %v", what, got, want)
	}
}

// noSessions: numbers that no session has.
func noSessions() []int {
	return []int{math.MinInt, -1, 4, math.MaxInt}
}

// P10.1: May.
func TestMay(t *testing.T) {
	for _, r := range []api.Result{{}, {Err: 24}, {A: math.MaxUint64, B: 1 << 63, Data: strings.Repeat("\x00", 64)}} {
		if !slot.May(r) {
			t.Errorf("%v may not be", r)
		}
	}
	for _, r := range []api.Result{{Err: -1}, {Err: 25}, {Err: 256}, {Err: math.MinInt}, {Data: strings.Repeat("x", 65)}} {
		if slot.May(r) {
			t.Errorf("%v may be", r)
		}
	}
}

// P10.1: Set.
func TestSet(t *testing.T) {
	v := view.New([]uint64{5, 6})
	if slot.Set(v, 0, 5) != api.OK || slot.Set(v, 1, 6) != api.OK {
		t.Error("a word that is so")
	}
	puts(t, "a word that is so", v)
	if slot.Set(v, 1, 7) != api.OK || slot.Set(v, 1, 7) != api.OK {
		t.Error("a word that is another one")
	}
	puts(t, "a word that is another one", v, api.Write{At: 1, Value: 7})
	if slot.Set(v, 1, 6) != api.OK {
		t.Error("a word that was put")
	}
	puts(t, "a word that was put", v, api.Write{At: 1, Value: 6})
	for _, at := range []int{math.MinInt, -1, 2, math.MaxInt} {
		if slot.Set(v, at, 0) != api.ErrRange || slot.Set(nil, at, 0) != api.ErrNil {
			t.Errorf("the word %d", at)
		}
	}
	v = full(0)
	if slot.Set(v, 8, 0) != api.OK || slot.Set(v, 8, 1) != api.ErrMany || slot.Set(v, -1, 1) != api.ErrRange {
		t.Error("a view that takes no more")
	}
}

// P10.2: Get, of what stands there.
func TestGet(t *testing.T) {
	v := fresh()
	for i := range 4 {
		if h, e := slot.Get(v, i); h != (slot.Head{}) || e != api.OK {
			t.Errorf("session %d of a new device: %v, %d", i, h, e)
		}
	}
	at := layout.SessionAt(2)
	for i, w := range []uint64{1, math.MaxUint64, 7, 5, 5, 5, 5, 5} {
		v.Put(at+i, w)
	}
	if h, e := slot.Get(v, 2); h != (slot.Head{Open: true, Gen: math.MaxUint64, Mark: 7}) || e != api.OK {
		t.Errorf("%v, %d", h, e)
	}
	v.Put(at, 0)
	if h, e := slot.Get(v, 2); h != (slot.Head{Gen: math.MaxUint64, Mark: 7}) || e != api.OK {
		t.Errorf("%v, %d", h, e)
	}
	for _, w := range []uint64{2, 256, 1 << 63, math.MaxUint64} {
		v.Put(at, w)
		if h, e := slot.Get(v, 2); h != (slot.Head{}) || e != api.ErrBytes {
			t.Errorf("%d: %v, %d", w, h, e)
		}
	}
	if h, e := slot.Get(v, 1); h != (slot.Head{}) || e != api.OK {
		t.Errorf("another session: %v, %d", h, e)
	}
}

// P10.2: Put.
func TestPut(t *testing.T) {
	v, at := fresh(), layout.SessionAt(3)
	for i := range 8 {
		v.Put(at+i, 2)
	}
	v = view.New(v.Flat())
	h := slot.Head{Open: true, Gen: math.MaxUint64, Mark: 1 << 50}
	if e := slot.Put(v, 3, h); e != api.OK {
		t.Error(e)
	}
	puts(t, "all", v, api.Write{At: at, Value: 1}, api.Write{At: at + 1, Value: math.MaxUint64}, api.Write{At: at + 2, Value: 1 << 50})
	if got, e := slot.Get(v, 3); got != h || e != api.OK {
		t.Errorf("%v, %d", got, e)
	}
	v = view.New(v.Flat())
	if e := slot.Put(v, 3, h); e != api.OK {
		t.Error(e)
	}
	puts(t, "again", v)
	h.Open = false
	if e := slot.Put(v, 3, h); e != api.OK {
		t.Error(e)
	}
	puts(t, "closed", v, api.Write{At: at, Value: 0})
	v = full(2)
	if e := slot.Put(v, 0, slot.Head{Open: true, Gen: 5, Mark: 6}); e != api.ErrMany || v.Get(8) != 1 || v.Get(9) != 5 || v.Get(10) != 0 {
		t.Errorf("a view that takes no more: %d", e)
	}
}

// calls: all calls of a session i, and slot k, with the errors that they tell.
func calls(v *view.View, i, k int) map[string]api.Errno {
	l := map[string]api.Errno{}
	_, l["get"] = slot.Get(v, i)
	l["put"] = slot.Put(v, i, slot.Head{Open: true, Gen: 1})
	_, _, l["load"] = slot.Load(v, i, k)
	l["save"] = slot.Save(v, i, k, 5, api.Result{A: 7})
	l["wipe"] = slot.Wipe(v, i)
	return l
}

// P10.2, P10.3, P10.4: ErrNil, ErrArg and ErrRange, in this order.
func TestRefused(t *testing.T) {
	all := func(what string, v *view.View, i, k int, want api.Errno, but ...string) {
		t.Helper()
		for call, e := range calls(v, i, k) {
			if e != want && !slices.Contains(but, call) {
				t.Errorf("%s: %s: %d, not %d", what, call, e, want)
			}
		}
	}
	words := layout.Format(g)
	for _, n := range noSessions() {
		all("no view", nil, n, n, api.ErrNil)
		all("no such session", fresh(), n, 0, api.ErrArg)
		all("no such session, no words", view.New(nil), n, 0, api.ErrArg)
		all("no such slot", fresh(), 0, n, api.ErrArg, "get", "put", "wipe")
	}
	for i := range 4 {
		all("too few words", view.New(words[:8+64*i+63]), i, 0, api.ErrRange)
		all("just enough words", view.New(words[:8+64*i+64]), i, 3, api.OK)
	}
	all("nothing", view.New(nil), 0, 0, api.ErrRange)
}

// P10.3: Save of what may not be saved.
func TestSaveRefused(t *testing.T) {
	v := fresh()
	for _, seq := range []uint64{0, api.MaxSeq + 1, math.MaxUint64} {
		if e := slot.Save(v, 0, 1, seq, api.Result{}); e != api.ErrArg {
			t.Errorf("number %d: %d", seq, e)
		}
	}
	for _, r := range []api.Result{{Err: 25}, {Err: -1}, {Data: strings.Repeat("x", 65)}} {
		if e := slot.Save(v, 0, 1, 1, r); e != api.ErrArg {
			t.Errorf("%v: %d", r, e)
		}
		if e := slot.Save(view.New(nil), 0, 1, 1, r); e != api.ErrArg {
			t.Errorf("%v in nothing: %d", r, e)
		}
	}
	puts(t, "refused", v)
	for _, seq := range []uint64{1, api.MaxSeq} {
		if e := slot.Save(v, 0, 1, seq, api.Result{}); e != api.OK {
			t.Errorf("number %d: %d", seq, e)
		}
	}
}

// P10.3: Save and Load, as in the chapter's example.
func TestSaveLoad(t *testing.T) {
	v := fresh()
	if seq, r, e := slot.Load(v, 0, 1); seq != 0 || r != (api.Result{}) || e != api.OK {
		t.Errorf("of a new device: %d, %v, %d", seq, r, e)
	}
	want := api.Result{A: 7, Data: "ab"}
	if e := slot.Save(v, 0, 1, 5, want); e != api.OK {
		t.Error(e)
	}
	puts(t, "saved", v, api.Write{At: 29, Value: 512}, api.Write{At: 30, Value: 7}, api.Write{At: 32, Value: 25185}, api.Write{At: 28, Value: 5})
	if seq, r, e := slot.Load(v, 0, 1); seq != 5 || r != want || e != api.OK {
		t.Errorf("%d, %v, %d", seq, r, e)
	}
	v = view.New(v.Flat())
	if e := slot.Save(v, 0, 1, 5, want); e != api.OK {
		t.Error(e)
	}
	puts(t, "saved again", v)
	if e := slot.Save(v, 0, 1, 9, api.Result{Err: 3, A: 1, B: 2}); e != api.OK {
		t.Error(e)
	}
	puts(t, "without data", v, api.Write{At: 29, Value: 3}, api.Write{At: 30, Value: 1}, api.Write{At: 31, Value: 2}, api.Write{At: 28, Value: 9})
	if seq, r, e := slot.Load(v, 0, 1); seq != 9 || r != (api.Result{Err: 3, A: 1, B: 2}) || e != api.OK {
		t.Errorf("%d, %v, %d", seq, r, e)
	}
}

// P10.3: Load of words that say nothing, and of a slot without a number, whatever stands there.
func TestLoadSpoilt(t *testing.T) {
	at := layout.SlotAt(1, 2)
	for _, c := range []struct {
		seq, size uint64
		want      api.Errno
	}{
		{1, 24, api.OK}, {1, 25, api.ErrBytes}, {1, 255, api.ErrBytes}, {1, 64 * 256, api.OK}, {1, 65 * 256, api.ErrBytes}, {1, 64*256 + 24, api.OK}, {1, 64*256 + 25, api.ErrBytes},
		{1, 1 << 63, api.ErrBytes}, {1, math.MaxUint64, api.ErrBytes}, {math.MaxUint64, 0, api.OK}, {api.MaxSeq + 1, 3, api.OK},
		{0, math.MaxUint64, api.OK}, {0, 25, api.OK}, {0, 256, api.OK},
	} {
		v := fresh()
		for i := range 12 {
			v.Put(at+i, 0x4141414141414141)
		}
		v.Put(at, c.seq)
		v.Put(at+1, c.size)
		seq, r, e := slot.Load(v, 1, 2)
		var want api.Result
		var number uint64
		if c.want == api.OK && c.seq != 0 {
			number = c.seq
			want = api.Result{Err: api.Errno(c.size & 255), A: 0x4141414141414141, B: 0x4141414141414141, Data: strings.Repeat("A", int(c.size>>8))}
		}
		if e != c.want || seq != number || r != want {
			t.Errorf("%d, %x: %d, %v, %d", c.seq, c.size, seq, r, e)
		}
	}
}

// P10.3: the first error ends a Save; what was put ahead stays.
func TestSaveMany(t *testing.T) {
	r := api.Result{Err: 1, A: 2, B: 3, Data: "12345678ab"}
	for left := range 6 {
		v := full(left)
		if e := slot.Save(v, 0, 0, 9, r); e != api.ErrMany {
			t.Fatalf("%d words left: %d", left, e)
		}
		for i, at := range []int{17, 18, 19, 20, 21, 16} {
			if (v.Get(at) != 0) != (i < left) {
				t.Errorf("%d words left: %d is %d", left, at, v.Get(at))
			}
		}
	}
	if e := slot.Save(full(6), 0, 0, 9, r); e != api.OK {
		t.Errorf("just enough words: %d", e)
	}
}

// P10.4: Wipe.
func TestWipe(t *testing.T) {
	words := layout.Format(g)
	for at := 8; at < 264; at++ {
		words[at] = uint64(at)
	}
	v := view.New(words)
	if e := slot.Wipe(v, 1); e != api.OK {
		t.Error(e)
	}
	var want []api.Write
	for _, at := range []int{80, 92, 104, 116, 128, 129, 130, 131, 132, 133, 134, 135} {
		want = append(want, api.Write{At: at})
	}
	puts(t, "wiped", v, want...)
	if seq, r, e := slot.Load(v, 1, 3); seq != 0 || r != (api.Result{}) || e != api.OK {
		t.Errorf("behind it: %d, %v, %d", seq, r, e)
	}
	v = view.New(v.Flat())
	if e := slot.Wipe(v, 1); e != api.OK {
		t.Error(e)
	}
	puts(t, "wiped again", v)
}

// P10.5: what was saved is loaded, in each slot of each session, and no word of another slot is turned.
func TestSavedIsLoaded(t *testing.T) {
	for i := range 4 {
		for k := range 4 {
			words := layout.Format(g)
			for at := 8; at < 264; at++ {
				words[at] = math.MaxUint64 - uint64(at)
			}
			for _, data := range []string{"", "\x00", "12345678", strings.Repeat("\xff\x00", 32)} {
				v := view.New(words)
				want := api.Result{Err: 24, A: uint64(i), B: uint64(k), Data: data}
				if e := slot.Save(v, i, k, api.MaxSeq, want); e != api.OK {
					t.Fatal(e)
				}
				if seq, r, e := slot.Load(v, i, k); seq != api.MaxSeq || r != want || e != api.OK {
					t.Errorf("%d, %d: %d, %v, %d", i, k, seq, r, e)
				}
				for _, w := range v.Writes() {
					if kind, a, b, _ := layout.Where(g, w.At); kind != layout.Slot || a != i || b != k {
						t.Errorf("%d, %d: the word %d is put", i, k, w.At)
					}
				}
			}
		}
	}
}

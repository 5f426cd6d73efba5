package view_test

import (
	"math"
	"slices"
	"testing"

	"grommet/api"
	"grommet/view"
)

// put ends the test, unless all of it may be put.
func put(t *testing.T, v *view.View, l ...api.Write) {
	t.Helper()
	for _, w := range l {
		if e := v.Put(w.At, w.Value); e != api.OK {
			t.Fatalf("put of %v: %d", w, e)
		}
	}
}

// out: places that a view of so many words has not.
func out(many int) []int {
	return []int{math.MinInt, -1, many, many + 1, math.MaxInt}
}

// P5.1: New, Len, Get, Put.
func TestGetPut(t *testing.T) {
	v := view.New([]uint64{5, 6, 7})
	if v.Len() != 3 || v.Get(0) != 5 || v.Get(1) != 6 || v.Get(2) != 7 || len(v.Writes()) != 0 {
		t.Error("a new view is not its image")
	}
	put(t, v, api.Write{At: 1, Value: 9})
	if v.Get(0) != 5 || v.Get(1) != 9 || v.Get(2) != 7 || v.Len() != 3 {
		t.Error("what is put is not told, or something else")
	}
	put(t, v, api.Write{At: 1, Value: math.MaxUint64}, api.Write{At: 0, Value: 0})
	if v.Get(0) != 0 || v.Get(1) != math.MaxUint64 {
		t.Error("what was put last is not told")
	}
	for _, at := range out(3) {
		if v.Get(at) != 0 || v.Put(at, 1) != api.ErrRange || len(v.Writes()) != 2 {
			t.Errorf("the word %d is there", at)
		}
	}
}

// P5.1: a view of no words.
func TestOfNothing(t *testing.T) {
	for _, words := range [][]uint64{nil, {}} {
		v := view.New(words)
		if v == nil || v.Len() != 0 || v.Get(0) != 0 || v.Put(0, 1) != api.ErrRange || len(v.Flat()) != 0 || len(v.Writes()) != 0 {
			t.Error("a view of nothing has words")
		}
	}
}

// P5.1: MaxWrites words may be put, those as often as one likes; ErrRange goes ahead.
func TestMany(t *testing.T) {
	v := view.New(make([]uint64, 200))
	for i := range api.MaxWrites {
		put(t, v, api.Write{At: 2 * i, Value: 1})
	}
	for i := range api.MaxWrites {
		if e := v.Put(2*i+1, 1); e != api.ErrMany || v.Get(2*i+1) != 0 {
			t.Fatalf("one word more: %d", e)
		}
		put(t, v, api.Write{At: 2 * i, Value: uint64(i)})
	}
	for _, at := range out(200) {
		if e := v.Put(at, 1); e != api.ErrRange {
			t.Errorf("the word %d: %d", at, e)
		}
	}
	if l := v.Writes(); len(l) != api.MaxWrites || l[95] != (api.Write{At: 190, Value: 95}) {
		t.Errorf("%d writes", len(l))
	}
	v.Drop()
	put(t, v, api.Write{At: 1, Value: 1})
}

// P5.2: Writes, in the order in which the places were put first, also of what is not turned.
func TestWrites(t *testing.T) {
	v := view.New([]uint64{5, 6})
	put(t, v, api.Write{At: 1, Value: 9}, api.Write{At: 0, Value: 5}, api.Write{At: 1, Value: 8})
	want := []api.Write{{At: 1, Value: 8}, {At: 0, Value: 5}}
	if got := v.Writes(); !slices.Equal(got, want) {
		t.Errorf("writes: %v", got)
	}
	if got := v.Flat(); !slices.Equal(got, []uint64{5, 8}) {
		t.Errorf("flat: %v", got)
	}
	clear(v.Writes())
	clear(v.Flat())
	if !slices.Equal(v.Writes(), want) || !slices.Equal(v.Flat(), []uint64{5, 8}) || v.Get(1) != 8 {
		t.Error("what was told is kept")
	}
}

// P5.2: Writes that were told stay, whatever is put behind.
func TestWritesStay(t *testing.T) {
	v := view.New([]uint64{5, 6, 7})
	put(t, v, api.Write{At: 1, Value: 9})
	l, f := v.Writes(), v.Flat()
	put(t, v, api.Write{At: 1, Value: 10}, api.Write{At: 2, Value: 11})
	if !slices.Equal(l, []api.Write{{At: 1, Value: 9}}) || !slices.Equal(f, []uint64{5, 9, 7}) {
		t.Error("what was told is turned by a put")
	}
}

// P5.2: Drop.
func TestDrop(t *testing.T) {
	v := view.New([]uint64{5, 6})
	v.Drop()
	put(t, v, api.Write{At: 1, Value: 9}, api.Write{At: 0, Value: 9})
	v.Drop()
	if len(v.Writes()) != 0 || v.Get(0) != 5 || v.Get(1) != 6 || !slices.Equal(v.Flat(), []uint64{5, 6}) {
		t.Error("something is put still")
	}
	put(t, v, api.Write{At: 0, Value: 3})
	if !slices.Equal(v.Writes(), []api.Write{{At: 0, Value: 3}}) {
		t.Errorf("put behind a drop: %v", v.Writes())
	}
}

// P5.1, R5: a view has memory of its own.
func TestOwnMemory(t *testing.T) {
	words := []uint64{5, 6, 7, 8}
	v := view.New(words[:2])
	put(t, v, api.Write{At: 0, Value: 9})
	if !slices.Equal(words, []uint64{5, 6, 7, 8}) {
		t.Error("a put turns what was handed in")
	}
	clear(words)
	if v.Get(1) != 6 || v.Len() != 2 {
		t.Error("a view is turned with what was handed in")
	}
}

// P5.3: Apply.
func TestApply(t *testing.T) {
	words := []uint64{1, 2, 3}
	l := []api.Write{{At: 2, Value: 7}, {At: 0, Value: 8}, {At: 2, Value: 9}}
	if e := view.Apply(words, l); e != api.OK || !slices.Equal(words, []uint64{8, 2, 9}) {
		t.Errorf("applied: %v, %d", words, e)
	}
	if !slices.Equal(l, []api.Write{{At: 2, Value: 7}, {At: 0, Value: 8}, {At: 2, Value: 9}}) {
		t.Error("the writes are turned")
	}
	for _, at := range out(3) {
		for _, l := range [][]api.Write{{{At: at, Value: 1}}, {{At: 0, Value: 1}, {At: at, Value: 1}}, {{At: at, Value: 1}, {At: 0, Value: 1}}} {
			if e := view.Apply(words, l); e != api.ErrRange || !slices.Equal(words, []uint64{8, 2, 9}) {
				t.Errorf("%v: %v, %d", l, words, e)
			}
		}
	}
	if e := view.Apply(words, nil); e != api.OK {
		t.Errorf("no writes: %d", e)
	}
	if e := view.Apply(nil, nil); e != api.OK {
		t.Errorf("nothing: %d", e)
	}
	if e := view.Apply(nil, []api.Write{{}}); e != api.ErrRange {
		t.Errorf("a write of no words: %d", e)
	}
	many := make([]api.Write, 500)
	many[499].Value = 4
	if e := view.Apply(words, many); e != api.OK || words[0] != 4 {
		t.Errorf("many writes: %d", e)
	}
	behind := []uint64{1, 2, 3}
	if e := view.Apply(behind[:2], []api.Write{{At: 2, Value: 9}}); e != api.ErrRange || behind[2] != 3 {
		t.Errorf("the room behind the words: %v, %d", behind, e)
	}
}

// P5.4: Apply of the Writes makes Flat, once and twice.
func TestApplyIsFlat(t *testing.T) {
	seed := uint64(7)
	next := func(n int) int {
		seed = seed*6364136223846793005 + 1442695040888963407
		return int((seed >> 33) % uint64(n))
	}
	for range 100 {
		image := make([]uint64, 1+next(60))
		for i := range image {
			image[i] = uint64(next(5))
		}
		v, want := view.New(image), slices.Clone(image)
		for range next(150) {
			at, w := next(len(image)), uint64(next(5))
			put(t, v, api.Write{At: at, Value: w})
			want[at] = w
		}
		for range 2 {
			if e := view.Apply(image, v.Writes()); e != api.OK || !slices.Equal(image, want) || !slices.Equal(v.Flat(), want) {
				t.Fatalf("%v: %v, not %v", v.Writes(), image, want)
			}
		}
	}
}

// R4, P5.2: of no view.
func TestNoView(t *testing.T) {
	var none *view.View
	none.Drop()
	if none.Len() != 0 || none.Get(0) != 0 || none.Put(0, 1) != api.ErrNil || none.Put(-1, 1) != api.ErrNil || len(none.Writes()) != 0 || len(none.Flat()) != 0 {
		t.Error("of no view something is told")
	}
}

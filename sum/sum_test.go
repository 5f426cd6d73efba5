package sum_test

import (
	"math"
	"slices"
	"testing"

	"grommet/sum"
)

const (
	begin = 14695981039346656037
	times = 1099511628211
)

// known: some lists and their sums, the last ones reckoned by hand from the rule.
func known() []struct {
	l    []uint64
	want uint64
} {
	var a, b uint64 = begin, begin
	a = (a ^ 1) * times
	b = (b ^ 1) * times
	b = (b ^ 2) * times
	return []struct {
		l    []uint64
		want uint64
	}{
		{nil, 0xcbf29ce484222325},
		{[]uint64{}, 0xcbf29ce484222325},
		{[]uint64{0}, 0xaf63bd4c8601b7df},
		{[]uint64{'a'}, 0xaf63dc4c8601ec8c},
		{[]uint64{'f', 'o', 'o', 'b', 'a', 'r'}, 0x85944171f73967e8},
		{[]uint64{1}, a},
		{[]uint64{1, 2}, b},
	}
}

// P2.1: Of, of what is known.
func TestOfKnown(t *testing.T) {
	for _, c := range known() {
		before := slices.Clone(c.l)
		if got := sum.Of(c.l); got != c.want {
			t.Errorf("%d: %x, not %x", c.l, got, c.want)
		}
		if !slices.Equal(c.l, before) {
			t.Errorf("%d was turned", before)
		}
	}
}

// P2.1: all 64 bits of a word count, and the sum goes round.
func TestOfGreat(t *testing.T) {
	for _, w := range []uint64{math.MaxUint64, 1 << 63, 1 << 32, 0x123456789abcdef0} {
		var want uint64 = begin
		want = (want ^ w) * times
		if got := sum.Of([]uint64{w}); got != want {
			t.Errorf("%x: %x, not %x", w, got, want)
		}
		want = (want ^ w) * times
		if got := sum.Of([]uint64{w, w}); got != want {
			t.Errorf("%x, twice: %x, not %x", w, got, want)
		}
	}
}

// P2.1: words count in their order.
func TestOfOrder(t *testing.T) {
	if sum.Of([]uint64{1, 2}) == sum.Of([]uint64{2, 1}) || sum.Of([]uint64{0}) == sum.Of(nil) || sum.Of([]uint64{1, 0}) == sum.Of([]uint64{1}) {
		t.Error("order, or how many there are, says nothing")
	}
}

// P2.2: Add and Now, word by word, are Of.
func TestAdd(t *testing.T) {
	words := []uint64{5, 0, math.MaxUint64, 7, 7, 1 << 40}
	s := sum.New()
	for i := range len(words) + 1 {
		if got, want := s.Now(), sum.Of(words[:i]); got != want || s.Now() != want {
			t.Errorf("%d words: %x, not %x", i, got, want)
		}
		if i < len(words) {
			s.Add(words[i])
		}
	}
}

// P2.2: two sums are two things.
func TestSumsApart(t *testing.T) {
	a, b := sum.New(), sum.New()
	a.Add(9)
	if b.Now() != begin || sum.New().Now() != begin {
		t.Error("a sum is turned by another one")
	}
	b.Add(8)
	if a.Now() != sum.Of([]uint64{9}) || b.Now() != sum.Of([]uint64{8}) {
		t.Error("two sums are one")
	}
}

// R4, P2.2: of no sum.
func TestNoSum(t *testing.T) {
	var none *sum.Sum
	none.Add(5)
	if none.Now() != 0 {
		t.Error("of no sum something is told")
	}
}

// P2.3: one word more or less turns the sum.
func TestOneWordUnlike(t *testing.T) {
	base := []uint64{3, 0, 1 << 63, math.MaxUint64, 12345}
	for i := range base {
		seen := map[uint64]uint64{}
		try := func(w uint64) {
			l := slices.Clone(base)
			l[i] = w
			s := sum.Of(l)
			if other, is := seen[s]; is && other != w {
				t.Errorf("word %d: %x and %x have one sum", i, other, w)
			}
			seen[s] = w
		}
		for bit := range 64 {
			try(base[i] ^ 1<<bit)
			try(uint64(bit))
			try(^uint64(bit))
		}
		try(base[i])
	}
}

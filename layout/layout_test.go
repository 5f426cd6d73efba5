package layout_test

import (
	"math"
	"slices"
	"testing"

	"grommet/api"
	"grommet/layout"
)

type geo = layout.Geometry

// may: some geometries that may be, with how many words each has.
func may() map[geo]int {
	return map[geo]int{
		{1, 2, 2}:    536,
		{1, 9, 30}:   264 + 208 + 16 + 144 + 240,
		{2, 3, 4}:    264 + 416 + 16 + 48 + 32,
		{4, 64, 512}: 264 + 832 + 16 + 1024 + 4096,
		{3, 64, 2}:   264 + 624 + 16 + 1024 + 16,
		{1, 2, 512}:  264 + 208 + 16 + 32 + 4096,
	}
}

// not: some that may not.
func not() []geo {
	return []geo{
		{}, {0, 2, 2}, {-1, 2, 2}, {5, 2, 2}, {1, 1, 2}, {1, 65, 2}, {1, 2, 1}, {1, 2, 513}, {1, 2, 0}, {1, 0, 2},
		{math.MinInt, 2, 2}, {1, math.MinInt, 2}, {1, 2, math.MinInt}, {math.MaxInt, 2, 2}, {1, math.MaxInt, 2}, {1, 2, math.MaxInt},
	}
}

// P4.1: May, Words.
func TestMay(t *testing.T) {
	for g, words := range may() {
		if !layout.May(g) || layout.Words(g) != words {
			t.Errorf("%v: %d words, not %d", g, layout.Words(g), words)
		}
	}
	for _, g := range not() {
		if layout.May(g) || layout.Words(g) != 0 {
			t.Errorf("%v may be, with %d words", g, layout.Words(g))
		}
	}
}

// P4.1: where sessions, slots and descriptors stand.
func TestSessions(t *testing.T) {
	if layout.SlotAt(0, 1) != 28 {
		t.Error("the slot 1: ", layout.SlotAt(0, 1))
	}
	for i := range api.Sessions {
		if at := layout.SessionAt(i); at != 8+64*i {
			t.Errorf("session %d: %d", i, at)
		}
		for k := range 4 {
			if at := layout.SlotAt(i, k); at != 8+64*i+8+12*k {
				t.Errorf("slot %d, %d: %d", i, k, at)
			}
			if at := layout.DescriptorAt(i, k); at != 8+64*i+56+2*k {
				t.Errorf("descriptor %d, %d: %d", i, k, at)
			}
		}
	}
	for _, i := range []int{math.MinInt, -1, 4, math.MaxInt} {
		for what, at := range map[string]int{
			"session": layout.SessionAt(i), "slot's session": layout.SlotAt(i, 0), "slot": layout.SlotAt(0, i),
			"descriptor's session": layout.DescriptorAt(i, 0), "descriptor": layout.DescriptorAt(0, i),
		} {
			if at != -1 {
				t.Errorf("%s %d: %d", what, i, at)
			}
		}
	}
}

// P4.1: where what hangs on the geometry stands.
func TestPlaces(t *testing.T) {
	for g := range may() {
		maps := 264 + 208*g.Workers
		for w := range g.Workers {
			if at := layout.AreaAt(g, w); at != 264+208*w {
				t.Errorf("%v: area %d: %d", g, w, at)
			}
		}
		if layout.InodeMapAt(g) != maps || layout.BlockMapAt(g) != maps+8 {
			t.Errorf("%v: maps: %d, %d", g, layout.InodeMapAt(g), layout.BlockMapAt(g))
		}
		for n := range g.Inodes {
			if at := layout.InodeAt(g, n); at != maps+16+16*n {
				t.Errorf("%v: inode %d: %d", g, n, at)
			}
		}
		for n := range g.Blocks {
			if at := layout.BlockAt(g, n); at != maps+16+16*g.Inodes+8*n {
				t.Errorf("%v: block %d: %d", g, n, at)
			}
		}
	}
}

// P4.1: where there is no such one.
func TestNoPlaces(t *testing.T) {
	g := geo{2, 3, 4}
	for what, at := range map[string]int{
		"area -1": layout.AreaAt(g, -1), "area 2": layout.AreaAt(g, 2), "area": layout.AreaAt(g, math.MinInt),
		"inode -1": layout.InodeAt(g, -1), "inode 3": layout.InodeAt(g, 3), "inode": layout.InodeAt(g, math.MaxInt),
		"block -1": layout.BlockAt(g, -1), "block 4": layout.BlockAt(g, 4), "block": layout.BlockAt(g, math.MinInt),
	} {
		if at != -1 {
			t.Errorf("%s: %d", what, at)
		}
	}
	for _, g := range not() {
		if layout.AreaAt(g, 0) != -1 || layout.InodeMapAt(g) != -1 || layout.BlockMapAt(g) != -1 || layout.InodeAt(g, 1) != -1 || layout.BlockAt(g, 1) != -1 {
			t.Errorf("%v, which may not be, has places", g)
		}
	}
}

// at: the first word of what Where told.
func at(g geo, k layout.Kind, i, j int) int {
	switch k {
	case layout.Super:
		return 0
	case layout.Session:
		return layout.SessionAt(i)
	case layout.Slot:
		return layout.SlotAt(i, j)
	case layout.Descriptor:
		return layout.DescriptorAt(i, j)
	case layout.Area:
		return layout.AreaAt(g, i)
	case layout.InodeMap:
		return layout.InodeMapAt(g)
	case layout.BlockMap:
		return layout.BlockMapAt(g)
	case layout.Inode:
		return layout.InodeAt(g, i)
	case layout.Block:
		return layout.BlockAt(g, i)
	}
	return -1
}

// sizes: how many words a thing of each kind has.
func sizes() map[layout.Kind]int {
	return map[layout.Kind]int{layout.Super: 8, layout.Session: 8, layout.Slot: 12, layout.Descriptor: 2, layout.Area: 208, layout.InodeMap: 8, layout.BlockMap: 8, layout.Inode: 16, layout.Block: 8}
}

// P4.2, P4.4: each word belongs to one thing alone, and is at its place.
func TestWhere(t *testing.T) {
	type word struct {
		k          layout.Kind
		i, j, rest int
	}
	for g, words := range may() {
		seen, many := map[word]bool{}, map[layout.Kind]int{}
		for n := range words {
			k, i, j, rest := layout.Where(g, n)
			x := word{k, i, j, rest}
			if at(g, k, i, j)+rest != n || rest < 0 || rest >= sizes()[k] || seen[x] {
				t.Fatalf("%v: %d: %v", g, n, x)
			}
			if j != 0 && k != layout.Slot && k != layout.Descriptor || i != 0 && (k == layout.Super || k == layout.InodeMap || k == layout.BlockMap) {
				t.Fatalf("%v: %d: numbers that it has not: %v", g, n, x)
			}
			seen[x] = true
			many[k]++
		}
		for k, want := range map[layout.Kind]int{layout.Super: 8, layout.Session: 32, layout.Slot: 192, layout.Descriptor: 32, layout.Area: 208 * g.Workers, layout.InodeMap: 8, layout.BlockMap: 8, layout.Inode: 16 * g.Inodes, layout.Block: 8 * g.Blocks} {
			if many[k] != want {
				t.Errorf("%v: of the kind %d: %d words, not %d", g, k, many[k], want)
			}
		}
	}
}

// P4.2: some words by hand, and those that are none.
func TestWhereByHand(t *testing.T) {
	g := geo{2, 3, 4}
	type told struct {
		k          layout.Kind
		i, j, rest int
	}
	for n, want := range map[int]told{
		0: {layout.Super, 0, 0, 0}, 7: {layout.Super, 0, 0, 7}, 8: {layout.Session, 0, 0, 0}, 15: {layout.Session, 0, 0, 7},
		28: {layout.Slot, 0, 1, 0}, 63: {layout.Slot, 0, 3, 11}, 64: {layout.Descriptor, 0, 0, 0}, 67: {layout.Descriptor, 0, 1, 1}, 263: {layout.Descriptor, 3, 3, 1},
		264: {layout.Area, 0, 0, 0}, 480: {layout.Area, 1, 0, 8}, 680: {layout.InodeMap, 0, 0, 0}, 695: {layout.BlockMap, 0, 0, 7}, 712: {layout.Inode, 1, 0, 0}, 775: {layout.Block, 3, 0, 7},
		-1: {}, 776: {}, math.MinInt: {}, math.MaxInt: {},
	} {
		if k, i, j, rest := layout.Where(g, n); (told{k, i, j, rest}) != want {
			t.Errorf("%d: %d %d %d %d, not %v", n, k, i, j, rest, want)
		}
	}
	for _, g := range not() {
		if k, i, j, rest := layout.Where(g, 8); k != layout.None || i != 0 || j != 0 || rest != 0 {
			t.Errorf("%v, which may not be, has a word", g)
		}
	}
}

// P4.3: Format.
func TestFormat(t *testing.T) {
	for g, words := range may() {
		want := make([]uint64, words)
		copy(want, []uint64{0x74656d6d6f7267, uint64(g.Workers), uint64(g.Inodes), uint64(g.Blocks)})
		maps := 264 + 208*g.Workers
		want[maps], want[maps+8] = 3, 1
		want[maps+16+16], want[maps+16+17] = 2, 1
		got := layout.Format(g)
		if !slices.Equal(got, want) {
			t.Errorf("%v is formatted otherwise", g)
		}
		clear(got)
		if !slices.Equal(layout.Format(g), want) {
			t.Errorf("%v is formatted otherwise the next time", g)
		}
	}
	for _, g := range not() {
		if l := layout.Format(g); len(l) != 0 {
			t.Errorf("%v, which may not be, is formatted", g)
		}
	}
}

// P4.3, P4.4: Of.
func TestOf(t *testing.T) {
	for g, n := range may() {
		words := layout.Format(g)
		for _, more := range []int{0, 1, 100} {
			if got, is := layout.Of(append(slices.Clone(words), make([]uint64, more)...)); got != g || !is {
				t.Errorf("%v and %d words more: %v", g, more, got)
			}
		}
		for _, less := range []int{0, 1, 3, 4, 7, 8, n - 1} {
			if got, is := layout.Of(words[:less]); is || got != (geo{}) {
				t.Errorf("%d words of %v: %v", less, g, got)
			}
		}
		for i := 8; i < n; i++ { // all others say nothing
			words[i] = math.MaxUint64
		}
		if got, is := layout.Of(words); got != g || !is {
			t.Errorf("%v with other words: %v", g, got)
		}
	}
}

// P4.3: Of, of words that are no device.
func TestOfNone(t *testing.T) {
	if g, is := layout.Of(nil); is || g != (geo{}) {
		t.Errorf("of nothing: %v", g)
	}
	for at, values := range map[int][]uint64{
		0: {0, 1, layout.Magic + 1, layout.Magic << 8},
		1: {0, 3, 5, 1 << 63, math.MaxUint64, 1<<32 + 1, 1<<62 + 1},
		2: {0, 1, 4, 65, 1 << 63, math.MaxUint64, 1<<32 + 3},
		3: {0, 1, 5, 513, 1 << 63, math.MaxUint64, 1<<32 + 4},
	} {
		for _, v := range values {
			words := layout.Format(geo{2, 3, 4})
			words[at] = v
			if g, is := layout.Of(words); is || g != (geo{}) {
				t.Errorf("%d at %d: %v", v, at, g)
			}
		}
	}
}

// P4.2: the kinds' numbers, and the layout's.
func TestNumbers(t *testing.T) {
	for n, k := range []layout.Kind{layout.None, layout.Super, layout.Session, layout.Slot, layout.Descriptor, layout.Area, layout.InodeMap, layout.BlockMap, layout.Inode, layout.Block} {
		if int(k) != n {
			t.Errorf("a kind is %d, not %d", k, n)
		}
	}
	if layout.AreaSize != 208 || layout.Record != 8 {
		t.Error("an area is another one")
	}
}

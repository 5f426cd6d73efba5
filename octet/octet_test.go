package octet_test

import (
	"bytes"
	"math"
	"slices"
	"strings"
	"testing"

	"grommet/api"
	"grommet/octet"
)

// numbers: the bytes of some numbers, on both sides of each size.
func numbers() map[uint64]string {
	return map[uint64]string{
		0:              "\x00",
		1:              "\x01\x01",
		255:            "\x01\xff",
		256:            "\x02\x00\x01",
		258:            "\x02\x02\x01",
		1<<16 - 1:      "\x02\xff\xff",
		1 << 16:        "\x03\x00\x00\x01",
		1<<24 - 1:      "\x03\xff\xff\xff",
		1 << 24:        "\x04\x00\x00\x00\x01",
		1<<32 - 1:      "\x04\xff\xff\xff\xff",
		1 << 32:        "\x05\x00\x00\x00\x00\x01",
		1 << 40:        "\x06\x00\x00\x00\x00\x00\x01",
		1 << 48:        "\x07\x00\x00\x00\x00\x00\x00\x01",
		1<<56 - 1:      "\x07\xff\xff\xff\xff\xff\xff\xff",
		1 << 56:        "\x08\x00\x00\x00\x00\x00\x00\x00\x01",
		1 << 63:        "\x08\x00\x00\x00\x00\x00\x00\x00\x80",
		math.MaxUint64: "\x08\xff\xff\xff\xff\xff\xff\xff\xff",
	}
}

// texts: some texts, all of whose bytes are to be kept.
func texts() []string {
	return []string{"", "a", "ab", "\x00", "a\x00", "\x00\x00\xff", "\xff\xfe", "grommet", "grommet\x00", "12345678", "123456789", strings.Repeat("x", 255), strings.Repeat("y", 256), strings.Repeat("\x00z", 40000)}
}

// P1.1: Number.
func TestNumberPuts(t *testing.T) {
	for n, want := range numbers() {
		for _, b := range []string{"", "?", "\x00\x01"} {
			if got := octet.Number([]byte(b), n); string(got) != b+want {
				t.Errorf("%d behind %x: %x", n, b, got)
			}
		}
		if got := octet.Number(nil, n); string(got) != want {
			t.Errorf("%d behind nothing: %x", n, got)
		}
	}
}

// P1.1: Text.
func TestTextPuts(t *testing.T) {
	for s, want := range map[string]string{"": "\x00", "ab": "\x01\x02ab", "\x00": "\x01\x01\x00", strings.Repeat("x", 300): "\x02\x2c\x01" + strings.Repeat("x", 300)} {
		for _, b := range []string{"", "?", "\x00\x01"} {
			if got := octet.Text([]byte(b), s); string(got) != b+want {
				t.Errorf("%.8q behind %x: %.16x", s, b, got)
			}
		}
		if got := octet.Text(nil, s); string(got) != want {
			t.Errorf("%.8q behind nothing: %.16x", s, got)
		}
	}
}

// P1.1: what is answered is new memory, and what is handed in stays, the room behind it too.
func TestPutsAreNew(t *testing.T) {
	puts := map[string]func([]byte) []byte{
		"number":     func(b []byte) []byte { return octet.Number(b, 258) },
		"nought":     func(b []byte) []byte { return octet.Number(b, 0) },
		"text":       func(b []byte) []byte { return octet.Text(b, "ab") },
		"empty text": func(b []byte) []byte { return octet.Text(b, "") },
	}
	for name, put := range puts {
		whole := []byte("abcdefghijklmnop")
		got := put(whole[:2])
		want := bytes.Clone(got)
		if string(whole) != "abcdefghijklmnop" {
			t.Errorf("%s: the room behind: %q", name, whole)
		}
		clear(whole)
		if !bytes.Equal(got, want) {
			t.Errorf("%s: it is kept in the memory handed in: %q", name, got)
		}
		whole = []byte("abcdefghijklmnop")
		got = put(whole[:2])
		clear(got)
		if string(whole) != "abcdefghijklmnop" {
			t.Errorf("%s: the memory handed in is handed out: %q", name, whole)
		}
	}
}

// P1.2: Byte.
func TestByte(t *testing.T) {
	x := octet.New([]byte("\x00a\xff"))
	for _, want := range []byte("\x00a\xff") {
		if x.End() {
			t.Errorf("at its end ahead of %x", want)
		}
		if c := x.Byte(); c != want || x.Torn() {
			t.Errorf("%x, not %x", c, want)
		}
	}
	if !x.End() || x.Torn() {
		t.Error("not at its end behind all")
	}
	if c := x.Byte(); c != 0 || !x.Torn() || x.End() {
		t.Errorf("behind all: %x", c)
	}
}

// P1.2: Number, of what stands there.
func TestNumberReads(t *testing.T) {
	for want, s := range numbers() {
		x := octet.New([]byte(s + "z"))
		if n := x.Number(); n != want || x.Torn() || x.End() {
			t.Errorf("%x: %d", s, n)
		}
		if c := x.Byte(); c != 'z' || !x.End() {
			t.Errorf("%x: it does not go on behind it: %x", s, c)
		}
	}
}

// isTorn tells whether all that is asked of a tape is nothing, again and again.
func isTorn(x *octet.Tape) bool {
	for range 3 {
		if x.Byte() != 0 || x.Number() != 0 || x.Text(math.MaxInt) != "" || x.End() || !x.Torn() {
			return false
		}
	}
	return true
}

// P1.2: Number, of what is none.
func TestNumberTorn(t *testing.T) {
	bad := []string{"", "\x01", "\x08", "\x02\x01", "\x081234567", "\x01\x00", "\x02\x01\x00", "\x02\x02\x00", "\x08\x01\x02\x03\x04\x05\x06\x07\x00", "\x08\x00\x00\x00\x00\x00\x00\x00\x00", "\x09123456789", "\xff" + strings.Repeat("x", 300)}
	for _, s := range bad {
		x := octet.New([]byte(s))
		if n := x.Number(); n != 0 || !isTorn(x) {
			t.Errorf("%.12x: %d", s, n)
		}
	}
	// Behind a tear no byte is told, though some are left that might be a number.
	x := octet.New([]byte("\x09\x01\x05\x01\x05"))
	if n := x.Number(); n != 0 || !isTorn(x) {
		t.Errorf("behind a tear: %d", n)
	}
}

// P1.2: Text, of what stands there.
func TestTextReads(t *testing.T) {
	for _, s := range texts() {
		for _, most := range []int{len(s), len(s) + 1, math.MaxInt} {
			x := octet.New(append(octet.Text(nil, s), 'z'))
			if got := x.Text(most); got != s || x.Torn() || x.End() {
				t.Errorf("%.8q, most %d: %.8q", s, most, got)
			}
			if c := x.Byte(); c != 'z' || !x.End() {
				t.Errorf("%.8q: it does not go on behind it: %x", s, c)
			}
		}
	}
}

// P1.2: Text, of what is none, or is above most.
func TestTextTorn(t *testing.T) {
	for _, c := range []struct {
		s    string
		most int
	}{
		{"", 5},
		{"\x01", 5},
		{"\x01\x01", 5},
		{"\x01\x02x", 5},
		{"\x01\x00", 5},
		{"\x02\x01\x00x", 5},
		{"\x09xxxxxxxxxxx", 500},
		{"\x00", -1},
		{"\x01\x01x", 0},
		{"\x01\x01x", -1},
		{"\x01\x01x", math.MinInt},
		{"\x01\x03xyz", 2},
		{"\x08\xff\xff\xff\xff\xff\xff\xff\x7fxyz", math.MaxInt},
		{"\x08\x00\x00\x00\x00\x00\x00\x00\x80xyz", math.MaxInt},
		{"\x08\xff\xff\xff\xff\xff\xff\xff\xffxyz", math.MaxInt},
		{"\x08\xff\xff\xff\xff\xff\xff\xff\xffxyz", -1},
	} {
		x := octet.New([]byte(c.s))
		if got := x.Text(c.most); got != "" || !isTorn(x) {
			t.Errorf("%x, most %d: %q", c.s, c.most, got)
		}
	}
}

// P1.2: a tear lasts, though something stands at that place.
func TestTearLasts(t *testing.T) {
	x := octet.New([]byte("a\x01\x03xyz"))
	if x.Byte() != 'a' || x.Text(2) != "" || !isTorn(x) || x.Text(3) != "" {
		t.Error("a tape that is torn goes on")
	}
}

// P1.2: a tape is of memory of its own.
func TestTapeOwns(t *testing.T) {
	b := []byte("a\x01\x05\x01\x02xy")
	x := octet.New(b)
	clear(b)
	if c, n, s := x.Byte(), x.Number(), x.Text(2); c != 'a' || n != 5 || s != "xy" || !x.End() {
		t.Errorf("it reads what was turned behind it: %x %d %q", c, n, s)
	}
	b = []byte("\x01\x02xyabc")
	x = octet.New(b[:4])
	if s := x.Text(9); s != "xy" || !x.End() || string(b) != "\x01\x02xyabc" {
		t.Errorf("it reads, or turns, what is handed in: %q, %q", s, b)
	}
	y, z := octet.New(b), octet.New(b)
	if n, c := y.Number(), z.Byte(); n != 2 || c != 1 {
		t.Errorf("two tapes of the same bytes: %d, %d", n, c)
	}
}

// P1.2: a tape of nothing is at its end, and not torn.
func TestTapeOfNothing(t *testing.T) {
	for _, b := range [][]byte{nil, {}} {
		x := octet.New(b)
		if x == nil || !x.End() || x.Torn() {
			t.Error("a tape of nothing")
		}
		if !x.End() || x.Byte() != 0 || !isTorn(x) {
			t.Error("a tape of nothing, asked")
		}
	}
}

// R4, P1.2: of no tape.
func TestNoTape(t *testing.T) {
	var none *octet.Tape
	if none.Byte() != 0 || none.Number() != 0 || none.Text(5) != "" || none.Text(-1) != "" || none.End() || !none.Torn() {
		t.Error("of no tape something is told")
	}
}

// packed: some texts and their words.
func packed() map[string][]uint64 {
	return map[string][]uint64{
		"":                                     nil,
		"a":                                    {97},
		"\x00":                                 {0},
		"ab":                                   {97 + 98<<8},
		"\x00\x00\x01":                         {1 << 16},
		"1234567":                              {0x37363534333231},
		"12345678":                             {0x3837363534333231},
		"123456789":                            {0x3837363534333231, 0x39},
		"\xff\x00":                             {255},
		"abcdefghABCDEFGH":                     {0x6867666564636261, 0x4847464544434241},
		"\xff\xff\xff\xff\xff\xff\xff\xff\xfe": {math.MaxUint64, 254},
	}
}

// P1.3: Pack.
func TestPack(t *testing.T) {
	for s, want := range packed() {
		got := octet.Pack(s)
		if !slices.Equal(got, want) {
			t.Errorf("%q: %x", s, got)
		}
		clear(got)
		if again := octet.Pack(s); !slices.Equal(again, want) {
			t.Errorf("%q, again: %x", s, again)
		}
	}
}

// P1.3: Unpack.
func TestUnpack(t *testing.T) {
	for s, l := range packed() {
		before := slices.Clone(l)
		for n := range len(s) + 1 {
			if got, e := octet.Unpack(l, n); got != s[:n] || e != api.OK {
				t.Errorf("%d of %x: %q, %d", n, l, got, e)
			}
		}
		whole := s + strings.Repeat("\x00", 8*len(l)-len(s))
		if got, e := octet.Unpack(l, 8*len(l)); got != whole || e != api.OK {
			t.Errorf("all of %x: %q, %d", l, got, e)
		}
		for _, n := range []int{-1, -8, math.MinInt, 8*len(l) + 1, 8*len(l) + 8, math.MaxInt} {
			if got, e := octet.Unpack(l, n); got != "" || e != api.ErrArg {
				t.Errorf("%d of %x: %q, %d", n, l, got, e)
			}
		}
		if !slices.Equal(l, before) {
			t.Errorf("%x was turned", before)
		}
	}
	// What stands behind the first n bytes says nothing.
	if got, e := octet.Unpack([]uint64{0x636261, 7, 8}, 2); got != "ab" || e != api.OK {
		t.Errorf("more than is asked: %q, %d", got, e)
	}
	// The room behind a list's end is none of its words.
	if got, e := octet.Unpack([]uint64{97, 98}[:1], 9); got != "" || e != api.ErrArg {
		t.Errorf("the room behind: %q, %d", got, e)
	}
}

// P1.4: what was put is read again, in order.
func TestPutIsRead(t *testing.T) {
	var b []byte
	for _, s := range texts() {
		b = octet.Text(b, s)
		b = octet.Number(b, uint64(len(s))<<40)
		b = append(b, byte(len(s)))
	}
	for i := range 64 {
		b = octet.Number(b, 1<<i)
		b = octet.Number(b, 1<<i-1)
	}
	x := octet.New(b)
	for _, s := range texts() {
		if got := x.Text(len(s)); got != s {
			t.Errorf("%.8q: %.8q", s, got)
		}
		if n := x.Number(); n != uint64(len(s))<<40 {
			t.Errorf("behind %.8q: %d", s, n)
		}
		if c := x.Byte(); c != byte(len(s)) {
			t.Errorf("behind %.8q: %x", s, c)
		}
	}
	for i := range 64 {
		if n, m := x.Number(), x.Number(); n != 1<<i || m != 1<<i-1 {
			t.Errorf("%d: %d, %d", i, n, m)
		}
	}
	if !x.End() || x.Torn() {
		t.Error("not at its end behind all")
	}
}

// each hands all lists of these bytes, up to that length, to a function.
func each(of string, most int, do func([]byte)) {
	lists := [][]byte{{}}
	for range most + 1 {
		var longer [][]byte
		for _, b := range lists {
			do(b)
			for _, c := range []byte(of) {
				longer = append(longer, append(bytes.Clone(b), c))
			}
		}
		lists = longer
	}
}

// P1.4: there is one way alone to put a number, and a text.
func TestOneWayAlone(t *testing.T) {
	ways := map[uint64]string{}
	each("\x00\x01\x02\x03\x08\x09\xff", 5, func(b []byte) {
		x := octet.New(b)
		n := x.Number()
		if x.Torn() {
			return
		}
		read := string(b[:len(b)-left(x)])
		if put := octet.Number(nil, n); string(put) != read {
			t.Errorf("%x was read as %d, which is put as %x", read, n, put)
		}
		if way, is := ways[n]; is && way != read {
			t.Errorf("%d is %x and %x", n, way, read)
		}
		ways[n] = read
		y := octet.New(b)
		s := y.Text(8)
		if y.Torn() {
			return
		}
		read += s
		if put := octet.Text(nil, s); string(put) != read || !bytes.HasPrefix(b, put) {
			t.Errorf("%x was read as %q, which is put as %x", b, s, put)
		}
	})
	if len(ways) < 50 {
		t.Error("too few numbers: ", len(ways))
	}
}

// left reads a tape to its end, and tells how many bytes that took.
func left(x *octet.Tape) int {
	many := 0
	for ; !x.End() && !x.Torn(); many++ {
		x.Byte()
	}
	return many
}

// P1.4: Unpack of Pack is the text.
func TestUnpackOfPack(t *testing.T) {
	all := make([]byte, 256)
	for i := range all {
		all[i] = byte(i)
	}
	for from := range all {
		for size := range min(20, len(all)-from) {
			s := string(all[from : from+size])
			if got, e := octet.Unpack(octet.Pack(s), len(s)); got != s || e != api.OK {
				t.Errorf("%x: %x, %d", s, got, e)
			}
		}
	}
	for _, s := range texts() {
		if got, e := octet.Unpack(octet.Pack(s), len(s)); got != s || e != api.OK {
			t.Errorf("%.8q: %.8q, %d", s, got, e)
		}
	}
}

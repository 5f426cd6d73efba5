package script_test

import (
	"math"
	"slices"
	"strconv"
	"strings"
	"testing"

	"grommet/api"
	"grommet/script"
)

type req = api.Request

// P28.1: Number.
func TestNumber(t *testing.T) {
	for s, want := range map[string]uint64{"0": 0, "1": 1, "10": 10, "007"[2:]: 7, "999999999": 999999999, "18446744073709551615": math.MaxUint64, "9223372036854775808": 1 << 63} {
		if n, is := script.Number(s); n != want || !is {
			t.Errorf("%q: %d, %v", s, n, is)
		}
	}
	for _, s := range []string{"", "00", "01", "-0", "-1", "+1", " 1", "1 ", "1_0", "0x1", "a", "1a", "1.0", "\x00", "１", "18446744073709551616", "99999999999999999999", strings.Repeat("9", 1000)} {
		if n, is := script.Number(s); n != 0 || is {
			t.Errorf("%q: %d, %v", s, n, is)
		}
	}
}

// P28.1: Hex and Bytes.
func TestHexBytes(t *testing.T) {
	all := make([]byte, 256)
	for i := range all {
		all[i] = byte(i)
	}
	for s, want := range map[string]string{"": "-", "a": "61", "\x00": "00", "\xff\x0a-": "ff0a2d", "-": "2d"} {
		if h := script.Hex(s); h != want {
			t.Errorf("Hex %q: %q", s, h)
		}
	}
	for _, s := range []string{"", "-", string(all), "abc"} {
		if b, is := script.Bytes(script.Hex(s)); b != s || !is {
			t.Errorf("Bytes of Hex of %q: %q", s, b)
		}
	}
	for _, s := range []string{"", "6", "616", "6A", "FF", "0g", "g0", "--", "-61", "61-", " 61", "61 ", "0x61", "6/", "6:", "6`"} {
		if b, is := script.Bytes(s); b != "" || is {
			t.Errorf("Bytes %q: %q", s, b)
		}
	}
}

// requests in lines.
func requests() map[string]req {
	long := strings.Repeat("p", 200)
	return map[string]req{
		"open /a 7":                            {Kind: api.ReqOpen, Path: "/a", Flags: 7},
		"open - 0":                             {Kind: api.ReqOpen, Path: "-"},
		"close 3":                              {Kind: api.ReqClose, Fd: 3},
		"close 18446744073709551615":           {Kind: api.ReqClose, Fd: math.MaxUint64},
		"read 0 64":                            {Kind: api.ReqRead, Size: 64},
		"write 1 -":                            {Kind: api.ReqWrite, Fd: 1},
		"write 1 00ff":                         {Kind: api.ReqWrite, Fd: 1, Data: "\x00\xff"},
		"seek 2 768":                           {Kind: api.ReqSeek, Fd: 2, At: 768},
		"truncate 2 5":                         {Kind: api.ReqTruncate, Fd: 2, At: 5},
		"stat /":                               {Kind: api.ReqStat, Path: "/"},
		"mkdir \xff\x00\t":                     {Kind: api.ReqMkdir, Path: "\xff\x00\t"},
		"rmdir " + long:                        {Kind: api.ReqRmdir, Path: long},
		"unlink #":                             {Kind: api.ReqUnlink, Path: "#"},
		"link /a /b":                           {Kind: api.ReqLink, Path: "/a", To: "/b"},
		"rename /a " + long:                    {Kind: api.ReqRename, Path: "/a", To: long},
		"readdir /a 3":                         {Kind: api.ReqReaddir, Path: "/a", At: 3},
		"write 0 " + strings.Repeat("7a", 128): {Kind: api.ReqWrite, Data: strings.Repeat("z", 128)},
	}
}

// P28.2, P28.4: Request and Show.
func TestRequestShow(t *testing.T) {
	for line, want := range requests() {
		l := strings.Split(line, " ")
		before := slices.Clone(l)
		if r, e := script.Request(l); r != want || e != api.OK || !slices.Equal(l, before) {
			t.Errorf("Request %.40q: %v, %d", line, r, e)
		}
		if s := script.Show(want); s != line {
			t.Errorf("Show %v: %.40q", want, s)
		}
	}
}

// notRequests: rows of words that are no requests.
func notRequests() [][]string {
	l := [][]string{nil, {""}, {"fly"}, {"Open", "/a", "0"}, {"open /a 0"}, {" open", "/a", "0"}, {"open", "/a", "8"}, {"open", "/a", "-1"}, {"open", "/a", "07"}, {"open", "", "0"}, {"open", "a b", "0"}, {"open", "a\nb", "0"},
		{"close", "x"}, {"close", "18446744073709551616"}, {"write", "0", ""}, {"write", "0", "6"}, {"write", "0", "6A"}, {"write", "-", "-"}, {"link", "/a", ""}, {"link", "/a", " "},
		{"write", "0", strings.Repeat("00", 129)}, {"stat", strings.Repeat("p", 201)}, {"rename", "/a", strings.Repeat("p", 201)}, {"readdir", "3", "/a"}}
	for line := range requests() {
		words := strings.Split(line, " ")
		l = append(l, words[:len(words)-1], append(slices.Clone(words), "0"), append(slices.Clone(words), ""), append([]string{""}, words...))
	}
	return l
}

// P28.2: what is no request, and what has no words.
func TestNoRequests(t *testing.T) {
	for _, l := range notRequests() {
		if r, e := script.Request(l); r != (req{}) || e != api.ErrArg {
			t.Errorf("Request %.40q: %v, %d", l, r, e)
		}
	}
	for _, r := range []req{{}, {Kind: 14}, {Kind: api.ReqOpen}, {Kind: api.ReqStat, Path: "a b"}, {Kind: api.ReqStat, Path: "a\n"}, {Kind: api.ReqLink, Path: "/a"}, {Kind: api.ReqLink, To: "/a"}, {Kind: api.ReqRename, Path: "/a", To: "/ "},
		{Kind: api.ReqOpen, Path: "/a", Flags: 8}, {Kind: api.ReqMkdir, Path: "/a", Fd: 1}, {Kind: api.ReqStat, Path: strings.Repeat("p", 201)}, {Kind: api.ReqWrite, Data: strings.Repeat("p", 129)}} {
		if s := script.Show(r); s != "" {
			t.Errorf("Show %.40v: %q", r, s)
		}
	}
}

// play holds the answers of lines against what they must be: line and answer by turns; an answer that is empty is none.
func play(t *testing.T, l ...string) {
	t.Helper()
	var text, want strings.Builder
	for i := 0; i < len(l); i += 2 {
		text.WriteString(l[i] + "\n")
		if l[i+1] != "" {
			want.WriteString(l[i+1] + "\n")
		}
	}
	got, e := script.Run(text.String())
	if e != api.OK {
		t.Fatal(e)
	}
	if got == want.String() {
		return
	}
	gots := strings.Split(got, "\n")
	for i, line := range strings.Split(want.String(), "\n") {
		if i >= len(gots) || gots[i] != line {
			t.Fatalf("answer %d is %.80q, not %.80q, of %.200q", i, append(gots, "")[min(i, len(gots))], line, l)
		}
	}
	t.Fatalf("more answers: %.200q", got)
}

// P28.3: the chapter's example.
func TestExample(t *testing.T) {
	play(t,
		"check", "error 3", "new 1 9 30", "ok", "open 0 1", "ticket 1", "rest", "rest 21", "reply 1", "reply 0 0 0 0 0 0 -",
		"call 0 1 1 mkdir /d", "ticket 2", "step 0 4", "phase 3", "rest", "rest 98", "reply 2", "reply 0 0 0 0 2 0 -",
		"check", "sound 1 2", "tree", "d /d\nend", "fly", "error 1")
}

// P28.3: each line, and its answers.
func TestLines(t *testing.T) {
	play(t,
		"new 2 9 30", "ok",
		"mount", "error 3",
		"mount 5", "error 3",
		"step 0", "error 6",
		"step 2", "error 1",
		"reply 1", "error 6",
		"query 0 1 1", "error 22",
		"query 4 1 1", "error 1",
		"query 999999999 18446744073709551615 18446744073709551615", "error 1",
		"open 4 1", "error 1",
		"evict 0", "ok",
		"evict 999999999", "error 8",
		"rest", "rest 0",
		"crash", "ok",
		"crash 0 1 2 255", "ok",
		"open 0 1", "ticket 1",
		"open 1 1", "ticket 2",
		"query 0 1 1", "error 21",
		"reply 2", "error 21",
		"step 1", "phase 1",
		"step 1 19", "phase 9",
		"step 1 1", "phase 10",
		"step 1 1000", "error 6", // the second one is done by it, too
		"reply 2", "reply 0 0 0 0 0 0 -",
		"reply 1", "reply 0 0 0 0 0 0 -",
		"reply 1", "error 6",
		"open 0 1", "ticket 3",
		"rest", "rest 3",
		"reply 3", "reply 0 1 0 0 0 0 -",
		"call 0 1 1 open /f 1", "ticket 4",
		"call 0 1 2 write 0 616263", "ticket 5",
		"call 0 1 3 seek 0 1", "ticket 6",
		"call 0 1 4 read 0 64", "ticket 7",
		"call 0 1 5 close 0", "ticket 8",
		"step 0 1000", "error 6",
		"reply 4", "reply 0 0 0 0 0 2 -",
		"reply 5", "reply 0 0 0 0 3 3 -",
		"reply 6", "reply 0 0 0 0 1 0 -",
		"reply 7", "reply 0 0 0 0 2 3 6263",
		"reply 8", "reply 0 3 0 0 0 0 -",
		"ack 0 1 9", "ticket 9",
		"call 0 1 4 read 0 64", "ticket 10",
		"call 0 1 5 mkdir /f/x", "ticket 11",
		"close 1 2", "ticket 12",
		"close 1 1", "ticket 13",
		"call 1 1 1 stat /", "ticket 14",
		"step 1 1000", "error 6",
		"reply 9", "reply 0 0 4 0 0 0 -",
		"reply 10", "reply 0 2 0 0 0 0 -",
		"reply 11", "reply 0 0 0 10 0 0 -",
		"reply 12", "reply 0 3 0 0 0 0 -",
		"reply 13", "reply 0 0 0 0 0 0 -",
		"reply 14", "reply 22 0 0 0 0 0 -",
		"query 0 1 4", "told 2 0 0 0 -",
		"query 0 1 5", "told 1 10 0 0 -",
		"query 0 1 6", "told 0 0 0 0 -",
		"query 0 1 9", "told 3 0 0 0 -",
		"check", "sound 1 2",
		"tree", "f /f 3\nend",
	)
}

// P28.3: a loss of power, and a mount, step by step.
func TestLossLines(t *testing.T) {
	play(t,
		"new 1 9 30", "ok", "open 0 1", "ticket 1", "rest", "rest 21", "call 0 1 1 mkdir /d", "ticket 2",
		"step 0 64", "phase 6", // the second step of its Marking
		"crash 2", "ok",
		"step 0", "error 3", "open 0 2", "error 3", "reply 1", "error 3", "query 0 1 1", "error 3",
		"check", "sound 1 2", "tree", "d /d\nend",
		"mount", "phase 4", "mount 3", "phase 4",
		"crash", "ok", "mount 1000", "error 3", "mount", "error 3",
		"query 0 1 1", "told 1 0 2 0 -", "step 0", "error 6",
		"new 1 9 30", "ok", "tree", "end", "query 0 1 1", "error 22",
	)
}

// P28.3: without a world, lines that are wrong are told ahead.
func TestNoWorld(t *testing.T) {
	play(t,
		"open 0 1", "error 3", "close 0 1", "error 3", "ack 0 1 1", "error 3", "call 0 1 1 stat /", "error 3", "step 0", "error 3", "mount", "error 3", "reply 1", "error 3", "query 0 1 1", "error 3",
		"evict 0", "error 3", "crash", "error 3", "rest", "error 3", "check", "error 3", "tree", "error 3",
		"open 0", "error 1", "call 0 1 1 fly", "error 1", "step 0 0", "error 1", "crash 256", "error 1", "rest 1", "error 1",
		"new 0 9 30", "error 1", "new 5 9 30", "error 1", "check", "error 3",
		"new 1 2 2", "ok", "new 1 1 2", "error 1", "check", "sound 1",
	)
}

// wrong lines of all kinds.
func wrongLines() []string {
	l := []string{
		" ", "  ", " check", "check ", "check  ", "new 1 9 30 ", "new  1 9 30", " new 1 9 30", "Check", "check\r", "\tcheck", "fly", "-", "new", "new 1", "new 1 9", "new 1 9 30 4", "new a 9 30", "new 01 9 30", "new 1 9 -30", "new 1000000000 9 30",
		"open", "open 0", "open 0 1 1", "open 1000000000 1", "open 0 18446744073709551616", "open x 1", "close 0", "close 0 x", "ack 0 1", "ack 0 1 1 1", "ack 0 1 01",
		"call 0 1 1", "call 0 1", "call 0 1 1 ", "call 0 1 1 stat", "call 0 1 1 stat / /", "call 0 1 1 open /a 8", "call 0 1 1 stat " + strings.Repeat("p", 201), "call x 1 1 stat /", "call 1000000000 1 1 stat /", "call 0 1 1 write 0 6A",
		"step", "step x", "step 0 0", "step 0 1001", "step 0 1 1", "step 1000000000", "mount 0", "mount 1001", "mount 1 1", "mount x", "reply", "reply x", "reply 1 1", "reply 1000000000", "query 0 1", "query 0 1 1 1", "query 1000000000 1 1",
		"evict", "evict x", "evict 0 0", "evict 1000000000", "crash 256", "crash x", "crash 0 x", "crash 0  1", "crash -1", "crash 00", "rest 1", "check 1", "tree 1", "mkdir /d",
	}
	return l
}

// P28.3, P28.4: wrong lines turn nothing, nor do those that are passed over.
func TestWrongLines(t *testing.T) {
	good := []string{"new 1 9 30", "open 0 1", "rest", "call 0 1 1 mkdir /d", "step 0 9", "rest", "reply 2", "tree"}
	want := []string{"ok", "ticket 1", "rest 21", "ticket 2", "phase 4", "rest 93", "reply 0 0 0 0 2 0 -", "d /d\nend"}
	for _, wrong := range wrongLines() {
		l := []string{wrong, "error 1"}
		for i := range good {
			l = append(l, good[i], want[i], wrong, "error 1", "", "", "#", "", "# check", "", "#"+wrong, "")
		}
		play(t, l...)
	}
}

// P28.3: what stands behind the last byte 10 is a line, too; nothing has no answers.
func TestLastLine(t *testing.T) {
	for text, want := range map[string]string{"": "", "\n": "", "\n\n#\n": "", "new 1 9 30": "ok\n", "new 1 9 30\n": "ok\n", "new 1 9 30\ncheck": "ok\nsound 1\n", "\ncheck\n": "error 3\n", "#x\ncheck\n\n": "error 3\n", "check\r\n": "error 1\n"} {
		if got, e := script.Run(text); got != want || e != api.OK {
			t.Errorf("%q: %q, %d", text, got, e)
		}
	}
}

// P28.3: how long a script may be, and how often a step may be done.
func TestLimits(t *testing.T) {
	if script.MaxScript != 65536 || script.MaxTimes != 1000 {
		t.Error("the limits are others")
	}
	text := "new 1 9 30\n" + strings.Repeat("#", script.MaxScript-11)
	if got, e := script.Run(text); got != "ok\n" || e != api.OK {
		t.Errorf("as long as may be: %q, %d", got, e)
	}
	if got, e := script.Run(text + "#"); got != "" || e != api.ErrMany {
		t.Errorf("a byte more: %q, %d", got, e)
	}
}

// P28.3: a tree, with names in their order, and each directory's own right behind its line.
func TestTree(t *testing.T) {
	l := []string{"new 1 20 90", "ok", "open 0 1", "ticket 1", "rest", "rest 21"}
	for i, s := range []string{"mkdir /b", "mkdir /a", "mkdir /b/z", "open /b/y 1", "mkdir /b/z/q", "open /a.f 1", "open /a/\xff 1", "open /a/Z 1", "mkdir /B", "link /b/y /b/z/y"} {
		n := strconv.Itoa(i + 1)
		l = append(l, "call 0 1 "+n+" "+s, "ticket "+strconv.Itoa(2*i+2), "ack 0 1 "+n, "ticket "+strconv.Itoa(2*i+3), "step 0 1000", "error 6")
	}
	l = append(l, "tree", "d /B\nd /a\nf /a/Z 0\nf /a/\xff 0\nf /a.f 0\nd /b\nf /b/y 0\nd /b/z\nd /b/z/q\nf /b/z/y 0\nend",
		"call 0 1 11 write 0 "+strings.Repeat("61", 100), "ticket 22", "rest", "", "tree", "d /B\nd /a\nf /a/Z 0\nf /a/\xff 0\nf /a.f 0\nd /b\nf /b/y 100\nd /b/z\nd /b/z/q\nf /b/z/y 100\nend")
	// How many steps a write has is not asked here: its answer is cut away.
	got, e := script.Run(lines(l))
	if e != api.OK {
		t.Fatal(e)
	}
	var want strings.Builder
	for i := 1; i < len(l); i += 2 {
		if l[i] != "" {
			want.WriteString(l[i] + "\n")
		}
	}
	var kept []string
	for i, line := range strings.Split(got, "\n") {
		if i == 2 || !strings.HasPrefix(line, "rest ") {
			kept = append(kept, line)
		}
	}
	if strings.Join(kept, "\n") != want.String() {
		t.Errorf("%q, not %q", strings.Join(kept, "\n"), want.String())
	}
}

// lines of a play, without the answers.
func lines(l []string) string {
	var b strings.Builder
	for i := 0; i < len(l); i += 2 {
		b.WriteString(l[i] + "\n")
	}
	return b.String()
}

// P28.3: the image is what is sure, with what is committed over it: what is marked, and loose, is not there.
func TestImageIsSure(t *testing.T) {
	play(t,
		"new 1 9 30", "ok", "open 0 1", "ticket 1", "rest", "rest 21", "call 0 1 1 mkdir /d", "ticket 2",
		"step 0 64", "phase 6", "check", "sound 1", "tree", "end", "step 0", "phase 6", "check", "sound 1 2", "tree", "d /d\nend", "step 0", "phase 7", "check", "sound 1 2",
	)
}

// P28.4: answers of two scripts, one behind the other, begin with those of the first one.
func TestOneBehindTheOther(t *testing.T) {
	scripts := []string{"", "new 1 9 30", "open 0 1\nrest\nreply 1\n", "check\ntree", "fly\n#\n\n", "call 0 1 1 mkdir /d\nstep 0 4\ncrash 2 2\nrest\nquery 0 1 1", "new 2 9 30\nopen 3 1\nstep 1 3"}
	for _, a := range scripts {
		for _, b := range scripts {
			first, _ := script.Run(a)
			both, e := script.Run(a + "\n" + b)
			if !strings.HasPrefix(both, first) || e != api.OK {
				t.Errorf("%q, %q: %q, not behind %q", a, b, both, first)
			}
		}
	}
	whole := strings.Join(scripts, "\n")
	once, _ := script.Run(whole)
	again, _ := script.Run(whole)
	if once != again {
		t.Error("a script has other answers the next time")
	}
}

// W2, W3: the document's ten examples of the whole.
func TestWholeExamples(t *testing.T) {
	play(t,
		"new 2 9 30", "ok", "open 0 1", "ticket 1", "rest", "rest 21", "reply 1", "reply 0 0 0 0 0 0 -",
		"call 0 1 1 open /a 1", "ticket 2", "step 0 1000", "error 6", "reply 2", "reply 0 0 0 0 0 2 -",
		"call 0 1 2 write 0 616263", "ticket 3", "step 0 1000", "error 6", "reply 3", "reply 0 0 0 0 3 3 -",
		"call 0 1 2 write 0 616263", "ticket 4", "step 1 1000", "error 6", "reply 4", "reply 0 1 0 0 3 3 -", "tree", "f /a 3\nend",
		"call 0 1 3 unlink /a", "ticket 5", "step 0 1000", "error 6", "reply 5", "reply 0 0 0 0 0 0 -", "tree", "end", "check", "sound 1 2",
		"call 0 1 4 seek 0 0", "ticket 6", "step 0 1000", "error 6", "reply 6", "reply 0 0 0 0 0 0 -",
		"ack 0 1 4", "ticket 7", "step 0 1000", "error 6", "reply 7", "reply 0 0 4 0 0 0 -",
		"query 0 1 4", "told 2 0 0 0 -", "query 0 1 9", "told 3 0 0 0 -",
		"call 0 1 5 read 0 64", "ticket 8", "step 0 1000", "error 6", "reply 8", "reply 0 0 0 0 3 3 616263",
		"call 0 1 6 close 0", "ticket 9", "step 0 1000", "error 6", "reply 9", "reply 0 0 0 0 0 0 -", "check", "sound 1",
		"call 0 1 7 mkdir /d", "ticket 10", "step 0 64", "phase 6", "crash", "ok", "tree", "end", "query 0 1 7", "told 0 0 0 0 -",
		"call 0 1 7 mkdir /d", "ticket 1", "step 0 64", "phase 6", "crash 2", "ok", "tree", "d /d\nend", "mount 1000", "error 3", "query 0 1 7", "told 1 0 2 0 -",
		"ack 0 1 6", "ticket 1", "open 1 1", "ticket 2", "step 0 1000", "error 6", "reply 1", "reply 0 0 6 0 0 0 -", "reply 2", "reply 0 0 0 0 0 0 -",
		"call 0 1 8 mkdir /d/x", "ticket 3", "call 1 1 1 mkdir /d/y", "ticket 4", "step 1 3", "phase 1", "step 0 2", "phase 1", "step 0", "phase 2", "step 1 1000", "error 6", "step 0 1000", "error 6",
		"tree", "d /d\nd /d/x\nd /d/y\nend",
		"close 0 1", "ticket 5", "step 0 1000", "error 6", "reply 5", "reply 0 0 0 0 0 0 -", "open 0 2", "ticket 6", "step 0 1000", "error 6", "reply 6", "reply 0 0 0 0 0 0 -", "check", "sound 1 2 3 4",
	)
}

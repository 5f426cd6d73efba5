package request_test

import (
	"bytes"
	"math"
	"strings"
	"testing"

	"grommet/api"
	"grommet/request"
)

type req = api.Request

// puts: some requests that may be, and their bytes.
func puts() map[req]string {
	long := strings.Repeat("p", 200)
	return map[req]string{
		{Kind: api.ReqOpen, Path: "/a", Flags: 7}:            "\x01\x01\x02/a\x01\x07",
		{Kind: api.ReqOpen}:                                  "\x01\x00\x00",
		{Kind: api.ReqClose, Fd: 3}:                          "\x02\x01\x03",
		{Kind: api.ReqClose}:                                 "\x02\x00",
		{Kind: api.ReqRead, Fd: 1, Size: math.MaxUint64}:     "\x03\x01\x01\x08\xff\xff\xff\xff\xff\xff\xff\xff",
		{Kind: api.ReqWrite, Fd: 258, Data: "ab\x00"}:        "\x04\x02\x02\x01\x01\x03ab\x00",
		{Kind: api.ReqWrite, Data: strings.Repeat("d", 128)}: "\x04\x00\x01\x80" + strings.Repeat("d", 128),
		{Kind: api.ReqSeek, Fd: math.MaxUint64, At: 256}:     "\x05\x08\xff\xff\xff\xff\xff\xff\xff\xff\x02\x00\x01",
		{Kind: api.ReqTruncate, Fd: 2, At: 5}:                "\x06\x01\x02\x01\x05",
		{Kind: api.ReqStat, Path: "no path"}:                 "\x07\x01\x07no path",
		{Kind: api.ReqMkdir, Path: "/a"}:                     "\x08\x01\x02/a",
		{Kind: api.ReqRmdir, Path: long}:                     "\x09\x01\xc8" + long,
		{Kind: api.ReqLink, Path: "/a", To: "\x00"}:          "\x0a\x01\x02/a\x01\x01\x00",
		{Kind: api.ReqUnlink, Path: "/\xff"}:                 "\x0b\x01\x02/\xff",
		{Kind: api.ReqRename, Path: "", To: long}:            "\x0c\x00\x01\xc8" + long,
		{Kind: api.ReqReaddir, Path: "/", At: 1 << 63}:       "\x0d\x01\x01/\x08\x00\x00\x00\x00\x00\x00\x00\x80",
	}
}

// P20.1, P20.2: what is put is got, the same.
func TestPutGet(t *testing.T) {
	for r, want := range puts() {
		if !request.May(r) {
			t.Errorf("%v may not be", r)
		}
		b := request.Put(r)
		if string(b) != want {
			t.Errorf("Put %v: %x, not %x", r, b, want)
		}
		got, e := request.Get([]byte(want))
		if got != r || e != api.OK {
			t.Errorf("Get %x: %v, %d", want, got, e)
		}
		clear(b)
		if string(request.Put(r)) != want {
			t.Errorf("Put %v again", r)
		}
	}
}

// fields: which fields each kind has: Path, To, Data, Fd, At, Size, Flags.
func fields() map[uint8]string {
	return map[uint8]string{1: "PL", 2: "F", 3: "FS", 4: "FD", 5: "FA", 6: "FA", 7: "P", 8: "P", 9: "P", 10: "PT", 11: "P", 12: "PT", 13: "PA"}
}

// with: a request of a kind with one field more.
func with(r req, field rune) req {
	switch field {
	case 'P':
		r.Path = "/x"
	case 'T':
		r.To = "/y"
	case 'D':
		r.Data = "z"
	case 'F':
		r.Fd = 1
	case 'A':
		r.At = 1
	case 'S':
		r.Size = 1
	case 'L':
		r.Flags = 1
	}
	return r
}

// P20.1: all fields that are not told are 0 or empty, of each kind.
func TestMayFields(t *testing.T) {
	for kind := range 256 {
		has, is := fields()[uint8(kind)]
		all := req{Kind: uint8(kind)}
		for _, f := range has {
			all = with(all, f)
		}
		for _, base := range []req{all, {Kind: uint8(kind)}} {
			if request.May(base) != is || (len(request.Put(base)) > 0) != is {
				t.Errorf("%v: %v", base, request.May(base))
			}
			for _, f := range "PTDFASL" {
				r := with(base, f)
				may := is && strings.ContainsRune(has, f)
				if request.May(r) != may || (len(request.Put(r)) > 0) != may {
					t.Errorf("%v: %v", r, request.May(r))
				}
			}
		}
	}
}

// P20.1: limits, at their edges.
func TestMayLimits(t *testing.T) {
	long := strings.Repeat("x", 200)
	for r, may := range map[req]bool{
		{Kind: api.ReqOpen, Flags: 7}: true, {Kind: api.ReqOpen, Flags: 8}: false, {Kind: api.ReqOpen, Flags: 255}: false,
		{Kind: api.ReqOpen, Path: long}: true, {Kind: api.ReqOpen, Path: long + "x"}: false, {Kind: api.ReqReaddir, Path: long + "x"}: false, {Kind: api.ReqStat, Path: long + "x"}: false,
		{Kind: api.ReqLink, To: long}: true, {Kind: api.ReqLink, To: long + "x"}: false, {Kind: api.ReqRename, Path: long + "x"}: false,
		{Kind: api.ReqWrite, Data: long[:128]}: true, {Kind: api.ReqWrite, Data: long[:129]}: false,
		{Kind: api.ReqRead, Fd: math.MaxUint64, Size: math.MaxUint64}: true, {Kind: api.ReqSeek, At: math.MaxUint64}: true,
	} {
		if request.May(r) != may || (len(request.Put(r)) > 0) != may {
			t.Errorf("%v: %v", r, request.May(r))
		}
	}
}

// P20.1: bytes that are none of a request.
func TestGetNone(t *testing.T) {
	long := strings.Repeat("x", 256)
	bad := []string{
		"", "\x00", "\x0e\x00", "\xff", "\x01", "\x01\x00", "\x02", "\x02\x01", "\x02\x01\x00", "\x02\x09123456789", "\x02\x02\x01\x00", "\x04\x00", "\x0a\x00",
		"\x01\x00\x01\x08", "\x01\x00\x02\x01\x01", "\x01\x00\x01\xff", "\x01\x00\x08\x07\x00\x00\x00\x00\x00\x00\x80",
		"\x07\x01\xc9" + long[:201], "\x0c\x00\x01\xc9" + long[:201], "\x04\x00\x01\x81" + long[:129], "\x08\x01\x05/a",
	}
	for _, s := range puts() {
		bad = append(bad, s+"\x00", s+"x", s[:len(s)-1], "\x00"+s)
	}
	for _, s := range bad {
		if r, e := request.Get([]byte(s)); r != (req{}) || e != api.ErrBytes {
			t.Errorf("Get %.20x: %v, %d", s, r, e)
		}
	}
	if r, e := request.Get(nil); r != (req{}) || e != api.ErrBytes {
		t.Errorf("Get of nothing: %v, %d", r, e)
	}
}

// P20.2: what is got is put as it stood.
func TestGotIsPut(t *testing.T) {
	alphabet := []byte("\x00\x01\x02\x03\x04\x07\x08\x0a\x0d/")
	got := 0
	var try func(b []byte, left int)
	try = func(b []byte, left int) {
		before := bytes.Clone(b)
		if r, e := request.Get(b); e == api.OK {
			got++
			if !request.May(r) || !bytes.Equal(request.Put(r), b) {
				t.Fatalf("%x is got as %v, which is put as %x", b, r, request.Put(r))
			}
		} else if r != (req{}) {
			t.Fatalf("%x: %v, %d", b, r, e)
		}
		if !bytes.Equal(b, before) {
			t.Fatalf("%x is turned", before)
		}
		if left > 0 {
			for _, c := range alphabet {
				try(append(b[:len(b):len(b)], c), left-1)
			}
		}
	}
	try(nil, 5)
	if got < 200 {
		t.Errorf("%d are requests alone", got)
	}
}

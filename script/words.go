package script

import (
	"strconv"
	"strings"

	"grommet/api"
	"grommet/request"
)

// noBytes is how no bytes stand in a line.
const noBytes = "-"

// digits to the base 16.
const digits = "0123456789abcdef"

// mostFlags is what all flags are together.
const mostFlags = uint64(api.Create | api.Only | api.Empty)

// Number: a number's value. (P28.1)
func Number(s string) (uint64, bool) {
	if s == "" || s[0] == '0' && s != "0" {
		return 0, false
	}
	n, err := strconv.ParseUint(s, 10, 64)
	if err != nil {
		return 0, false
	}
	return n, true
}

// Hex: bytes in a line. (P28.1)
func Hex(s string) string {
	if s == "" {
		return noBytes
	}
	b := make([]byte, 0, 2*len(s))
	for i := range len(s) {
		b = append(b, digits[s[i]>>4], digits[s[i]&15])
	}
	return string(b)
}

// Bytes: those of a line. (P28.1)
func Bytes(s string) (string, bool) {
	if s == noBytes {
		return "", true
	}
	if s == "" || len(s)%2 != 0 {
		return "", false
	}
	b := make([]byte, 0, len(s)/2)
	for i := 0; i < len(s); i += 2 {
		high, low := strings.IndexByte(digits, s[i]), strings.IndexByte(digits, s[i+1])
		if high < 0 || low < 0 {
			return "", false
		}
		b = append(b, byte(high<<4|low))
	}
	return string(b), true
}

// isWord: may it stand in a line as it is?
func isWord(s string) bool {
	return s != "" && strings.IndexByte(s, ' ') < 0 && strings.IndexByte(s, '\n') < 0
}

// row of words that are taken one by one; it is wrong, once one was not what was asked for.
type row struct {
	rest  []string
	wrong bool
}

// isMore: is there one that was not taken?
func (r *row) isMore() bool {
	return len(r.rest) > 0
}

// isDone: was all taken, and all what was asked for?
func (r *row) isDone() bool {
	return !r.wrong && !r.isMore()
}

// word: the next one.
func (r *row) word() string {
	if !r.isMore() || !isWord(r.rest[0]) {
		r.wrong = true
		return ""
	}
	s := r.rest[0]
	r.rest = r.rest[1:]
	return s
}

// number that is next, up to the most that it may be.
func (r *row) number(most uint64) uint64 {
	n, is := Number(r.word())
	if !is || n > most {
		r.wrong = true
		return 0
	}
	return n
}

// bytes that are next.
func (r *row) bytes() string {
	s, is := Bytes(r.word())
	r.wrong = r.wrong || !is
	return s
}

// form of a request in a line: its first word, and what stands behind it.
type form struct {
	name   string
	kind   uint8
	fields []field
}

// field of a request in a line.
type field uint8

const (
	path field = iota
	to
	flags
	fd
	size
	at
	data
)

func forms() []form {
	return []form{
		{"open", api.ReqOpen, []field{path, flags}},
		{"close", api.ReqClose, []field{fd}},
		{"read", api.ReqRead, []field{fd, size}},
		{"write", api.ReqWrite, []field{fd, data}},
		{"seek", api.ReqSeek, []field{fd, at}},
		{"truncate", api.ReqTruncate, []field{fd, at}},
		{"stat", api.ReqStat, []field{path}},
		{"mkdir", api.ReqMkdir, []field{path}},
		{"rmdir", api.ReqRmdir, []field{path}},
		{"unlink", api.ReqUnlink, []field{path}},
		{"link", api.ReqLink, []field{path, to}},
		{"rename", api.ReqRename, []field{path, to}},
		{"readdir", api.ReqReaddir, []field{path, at}},
	}
}

// take a field of a request from a row.
func (r *row) take(f field, x *api.Request) {
	switch f {
	case path:
		x.Path = r.word()
	case to:
		x.To = r.word()
	case flags:
		x.Flags = uint8(r.number(mostFlags))
	case fd:
		x.Fd = r.number(any64)
	case size:
		x.Size = r.number(any64)
	case at:
		x.At = r.number(any64)
	case data:
		x.Data = r.bytes()
	}
}

// show a field of a request as a word, if it may be one.
func (f field) show(x api.Request) string {
	switch f {
	case path:
		return x.Path
	case to:
		return x.To
	case flags:
		return decimal(uint64(x.Flags))
	case fd:
		return decimal(x.Fd)
	case size:
		return decimal(x.Size)
	case at:
		return decimal(x.At)
	default:
		return Hex(x.Data)
	}
}

// Request: of words. (P28.2)
func Request(l []string) (api.Request, api.Errno) {
	r := &row{rest: l}
	x, is := r.request()
	if !is {
		return api.Request{}, api.ErrArg
	}
	return x, api.OK
}

// request that all words that are left are.
func (r *row) request() (api.Request, bool) {
	name := r.word()
	for _, f := range forms() {
		if f.name != name {
			continue
		}
		x := api.Request{Kind: f.kind}
		for _, field := range f.fields {
			r.take(field, &x)
		}
		return x, r.isDone() && request.May(x)
	}
	return api.Request{}, false
}

// Show: its words. (P28.2)
func Show(r api.Request) string {
	if !request.May(r) {
		return ""
	}
	for _, f := range forms() {
		if f.kind != r.Kind {
			continue
		}
		l := []string{f.name}
		for _, field := range f.fields {
			s := field.show(r)
			if !isWord(s) {
				return ""
			}
			l = append(l, s)
		}
		return strings.Join(l, " ")
	}
	return ""
}

func decimal(n uint64) string {
	return strconv.FormatUint(n, 10)
}

package plan_test

import (
	"maps"
	"slices"
	"strings"

	"grommet/api"
)

// plain is a tree of names, texts and descriptors to which calls are done one behind the other: what a device with room enough must tell.
type plain struct {
	inodes int
	nodes  map[int]*node
	open   [4][4]*desc
}

type node struct {
	kind   uint64
	links  uint64
	opens  int
	text   []byte
	names  map[string]int
	parent int
}

type desc struct {
	n     int
	place uint64
}

func newPlain(inodes int) *plain {
	return &plain{inodes: inodes, nodes: map[int]*node{1: {kind: api.IsDir, links: 1, names: map[string]int{}}}}
}

// cut a path into names.
func cut(s string) ([]string, api.Errno) {
	if s == "/" {
		return nil, api.OK
	}
	if !strings.HasPrefix(s, "/") || len(s) > 200 {
		return nil, api.ErrName
	}
	l := strings.Split(s[1:], "/")
	for _, name := range l {
		if name == "" || name == "." || name == ".." || len(name) > 40 || strings.Contains(name, "\x00") {
			return nil, api.ErrName
		}
	}
	return l, api.OK
}

// down goes along names.
func (p *plain) down(l []string) (int, api.Errno) {
	at := 1
	for _, name := range l {
		x := p.nodes[at]
		if x.kind != api.IsDir {
			return 0, api.ErrNoDir
		}
		n, is := x.names[name]
		if !is {
			return 0, api.ErrNone
		}
		at = n
	}
	return at, api.OK
}

func (p *plain) walk(s string) (int, api.Errno) {
	l, e := cut(s)
	if e != api.OK {
		return 0, e
	}
	return p.down(l)
}

// last: the directory of a path's last name, that, and its inode (0: none).
func (p *plain) last(s string) (dir int, name string, n int, e api.Errno) {
	l, e := cut(s)
	if e != api.OK || len(l) == 0 {
		return 0, "", 0, api.ErrName
	}
	dir, e = p.down(l[:len(l)-1])
	if e != api.OK {
		return 0, "", 0, e
	}
	if p.nodes[dir].kind != api.IsDir {
		return 0, "", 0, api.ErrNoDir
	}
	name = l[len(l)-1]
	return dir, name, p.nodes[dir].names[name], api.OK
}

func (p *plain) make(s string, kind uint64) (int, api.Errno) {
	dir, name, n, e := p.last(s)
	switch {
	case e != api.OK:
		return 0, e
	case n != 0:
		return 0, api.ErrExist
	}
	n = 2
	for p.nodes[n] != nil {
		n++
	}
	switch {
	case n >= p.inodes:
		return 0, api.ErrSpace
	case len(p.nodes[dir].names) == 12:
		return 0, api.ErrDir
	}
	p.nodes[n] = &node{kind: kind, links: 1, names: map[string]int{}, parent: dir}
	p.nodes[dir].names[name] = n
	return n, api.OK
}

// release what nobody has.
func (p *plain) release(n int) {
	if x := p.nodes[n]; x.links == 0 && x.opens == 0 {
		delete(p.nodes, n)
	}
}

func (p *plain) remove(s string, kind uint64) api.Errno {
	dir, name, n, e := p.last(s)
	switch {
	case e != api.OK:
		return e
	case n == 0:
		return api.ErrNone
	case kind == api.IsFile && p.nodes[n].kind == api.IsDir:
		return api.ErrIsDir
	case kind == api.IsDir && p.nodes[n].kind == api.IsFile:
		return api.ErrNoDir
	case len(p.nodes[n].names) > 0:
		return api.ErrFilled
	}
	delete(p.nodes[dir].names, name)
	p.nodes[n].links--
	p.release(n)
	return api.OK
}

func (p *plain) link(s, to string) api.Errno {
	n, e := p.walk(s)
	switch {
	case e != api.OK:
		return e
	case p.nodes[n].kind == api.IsDir:
		return api.ErrIsDir
	}
	dir, name, there, e := p.last(to)
	switch {
	case e != api.OK:
		return e
	case there != 0:
		return api.ErrExist
	case len(p.nodes[dir].names) == 12:
		return api.ErrDir
	}
	p.nodes[dir].names[name] = n
	p.nodes[n].links++
	return api.OK
}

func (p *plain) rename(s, to string) api.Errno {
	dir, name, n, e := p.last(s)
	switch {
	case e != api.OK:
		return e
	case n == 0:
		return api.ErrNone
	}
	dest, last, m, e := p.last(to)
	switch {
	case e != api.OK:
		return e
	case m == n:
		return api.OK
	}
	if p.nodes[n].kind == api.IsDir {
		for at := dest; at != 0; at = p.nodes[at].parent {
			if at == n {
				return api.ErrLoop
			}
		}
		if m != 0 && p.nodes[m].kind == api.IsFile {
			return api.ErrNoDir
		}
		if m != 0 && len(p.nodes[m].names) > 0 {
			return api.ErrFilled
		}
	} else if m != 0 && p.nodes[m].kind == api.IsDir {
		return api.ErrIsDir
	}
	if m == 0 && dir != dest && len(p.nodes[dest].names) == 12 {
		return api.ErrDir
	}
	delete(p.nodes[dir].names, name)
	p.nodes[dest].names[last] = n
	p.nodes[n].parent = dest
	if m != 0 {
		p.nodes[m].links--
		p.release(m)
	}
	return api.OK
}

func (p *plain) openFile(i int, r api.Request) (api.Result, api.Errno) {
	n, e := p.walk(r.Path)
	switch {
	case e == api.OK && r.Flags&api.Only != 0:
		return api.Result{}, api.ErrExist
	case e == api.OK && p.nodes[n].kind == api.IsDir:
		return api.Result{}, api.ErrIsDir
	case e != api.OK && (e != api.ErrNone || r.Flags&api.Create == 0):
		return api.Result{}, e
	}
	k := slices.Index(p.open[i][:], nil)
	if e == api.ErrNone {
		if n, e = p.make(r.Path, api.IsFile); e != api.OK {
			return api.Result{}, e
		}
		if k < 0 { // what could not be opened is not made
			p.remove(r.Path, api.IsFile)
		}
	}
	if k < 0 {
		return api.Result{}, api.ErrFds
	}
	if r.Flags&api.Empty != 0 {
		p.nodes[n].text = nil
	}
	p.nodes[n].opens++
	p.open[i][k] = &desc{n: n}
	return api.Result{A: uint64(k), B: uint64(n)}, api.OK
}

// resize a text.
func (x *node) resize(size uint64) {
	x.text = append(x.text, make([]byte, 768)...)[:size:size]
}

// file does what goes by a descriptor.
func (p *plain) file(i int, r api.Request) (api.Result, api.Errno) {
	if r.Fd > 3 || p.open[i][r.Fd] == nil {
		return api.Result{}, api.ErrFd
	}
	d := p.open[i][r.Fd]
	x := p.nodes[d.n]
	size := uint64(len(x.text))
	switch r.Kind {
	case api.ReqClose:
		p.open[i][r.Fd] = nil
		x.opens--
		p.release(d.n)
		return api.Result{}, api.OK
	case api.ReqRead:
		if r.Size > 64 {
			return api.Result{}, api.ErrRange
		}
		s := string(x.text[min(d.place, size):min(d.place+r.Size, size)])
		d.place += uint64(len(s))
		return api.Result{A: uint64(len(s)), B: d.place, Data: s}, api.OK
	case api.ReqWrite:
		end := d.place + uint64(len(r.Data))
		if end > 768 {
			return api.Result{}, api.ErrRange
		}
		if r.Data != "" {
			x.resize(max(size, end))
			copy(x.text[d.place:], r.Data)
		}
		d.place = end
		return api.Result{A: uint64(len(r.Data)), B: end}, api.OK
	}
	if r.At > 768 {
		return api.Result{}, api.ErrRange
	}
	if r.Kind == api.ReqSeek {
		d.place = r.At
	} else {
		x.resize(r.At)
	}
	return api.Result{A: r.At}, api.OK
}

// look does what only looks at a path.
func (p *plain) look(r api.Request) (api.Result, api.Errno) {
	n, e := p.walk(r.Path)
	if e != api.OK {
		return api.Result{}, e
	}
	x := p.nodes[n]
	if r.Kind == api.ReqStat {
		return api.Result{A: x.kind + 4*x.links, B: uint64(len(x.text))}, api.OK
	}
	l := slices.Sorted(maps.Keys(x.names))
	switch {
	case x.kind != api.IsDir:
		return api.Result{}, api.ErrNoDir
	case r.At >= uint64(len(l)):
		return api.Result{}, api.ErrNone
	}
	return api.Result{A: uint64(x.names[l[r.At]]), B: uint64(len(l)), Data: l[r.At]}, api.OK
}

// do a request of a session.
func (p *plain) do(i int, r api.Request) api.Result {
	var x api.Result
	var e api.Errno
	switch r.Kind {
	case api.ReqOpen:
		x, e = p.openFile(i, r)
	case api.ReqStat, api.ReqReaddir:
		x, e = p.look(r)
	case api.ReqMkdir:
		var n int
		n, e = p.make(r.Path, api.IsDir)
		x.A = uint64(n)
	case api.ReqRmdir:
		e = p.remove(r.Path, api.IsDir)
	case api.ReqUnlink:
		e = p.remove(r.Path, api.IsFile)
	case api.ReqLink:
		e = p.link(r.Path, r.To)
	case api.ReqRename:
		e = p.rename(r.Path, r.To)
	default:
		x, e = p.file(i, r)
	}
	if e != api.OK {
		return api.Result{Err: e}
	}
	return x
}

// closeAll descriptors of a session.
func (p *plain) closeAll(i int) {
	for k, d := range p.open[i] {
		if d != nil {
			p.file(i, api.Request{Kind: api.ReqClose, Fd: uint64(k)})
		}
	}
}

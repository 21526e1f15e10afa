package tables_test

import (
	"fmt"
	"maps"
	"slices"

	"buttress/api"
	"buttress/tables"
)

// plain is a space once more: which tables are where, and beside them, in one heap, all pages.
type plain struct {
	table map[int]int
	page  map[int]api.Page
}

func empty() plain { return plain{map[int]int{}, map[int]api.Page{}} }

func (p plain) copied() plain { return plain{maps.Clone(p.table), maps.Clone(p.page)} }

// text tells all that a space may tell.
func (p plain) text() string { return fmt.Sprint(p.table, p.page) }

// laid are the pages from one number up to another one, without that.
func (p plain) laid(from, to int) []api.Laid {
	var l []api.Laid
	for _, n := range slices.Sorted(maps.Keys(p.page)) {
		if n >= from && n < to {
			l = append(l, api.Laid{At: n, P: p.page[n]})
		}
	}
	return l
}

// frames are the pages of each frame.
func (p plain) frames() map[int][]int {
	of := map[int][]int{}
	for _, x := range p.laid(0, 4096) {
		of[x.P.Frame] = append(of[x.P.Frame], x.At)
	}
	return of
}

// call is one that may change a space.
type call struct {
	kind string
	at   int // the place, or the page
	n    int // the table, or the rights
	p    api.Page
}

func table(i, n int) call              { return call{kind: "Table", at: i, n: n} }
func drop(i int) call                  { return call{kind: "Drop", at: i} }
func lay(n, frame, rights int) call    { return call{kind: "Map", at: n, p: page(frame, rights)} }
func rights(n, r int) call             { return call{kind: "Rights", at: n, n: r} }
func unmap(n int) call                 { return call{kind: "Unmap", at: n} }
func page(frame, rights int) api.Page  { return api.Page{Frame: frame, Rights: rights} }
func laid(n, frame, r int) api.Laid    { return api.Laid{At: n, P: page(frame, r)} }
func dropped(gone ...api.Laid) answer  { return answer{gone: gone} }
func unmapped(frame, right int) answer { return answer{p: page(frame, right)} }

// answer is what a call answers: Drop pages, Unmap a page, all others the error alone.
type answer struct {
	gone []api.Laid
	p    api.Page
	e    api.Errno
}

func (a answer) is(b answer) bool {
	return slices.Equal(a.gone, b.gone) && a.p == b.p && a.e == b.e
}

var (
	done = answer{}
	arg  = answer{e: api.ErrArg}
	full = answer{e: api.ErrTablesFull}
	none = answer{e: api.ErrTablesNone}
)

func (c call) of(s *tables.Space) answer {
	var a answer
	switch c.kind {
	case "Table":
		a.e = s.Table(c.at, c.n)
	case "Drop":
		a.gone, a.e = s.Drop(c.at)
	case "Map":
		a.e = s.Map(c.at, c.p)
	case "Rights":
		a.e = s.Rights(c.at, c.n)
	case "Unmap":
		a.p, a.e = s.Unmap(c.at)
	default:
		panic(c.kind)
	}
	return a
}

// ofPlain is P14.1 and P14.2 once more: it answers as of does, and changes p.
func (c call) ofPlain(p plain) answer {
	if c.kind == "Table" || c.kind == "Drop" {
		return c.ofPlace(p)
	}
	if c.at < 0 || c.at > 4095 || c.p.Frame < 0 || c.p.Rights < 0 || c.p.Rights > 7 || c.n < 0 || c.n > 7 {
		return arg
	}
	_, there := p.table[c.at/64]
	was, is := p.page[c.at]
	switch {
	case !there, c.kind != "Map" && !is:
		return none
	case c.kind == "Map" && is:
		return full
	case c.kind == "Map":
		p.page[c.at] = c.p
	case c.kind == "Rights":
		p.page[c.at] = page(was.Frame, c.n)
	case c.kind == "Unmap":
		delete(p.page, c.at)
		return answer{p: was}
	}
	return done
}

func (c call) ofPlace(p plain) answer {
	_, there := p.table[c.at]
	switch {
	case c.at < 0 || c.at > 63 || c.n < 0:
		return arg
	case c.kind == "Drop" && !there:
		return none
	case c.kind == "Drop":
		gone := p.laid(64*c.at, 64*c.at+64)
		delete(p.table, c.at)
		maps.DeleteFunc(p.page, func(n int, _ api.Page) bool { return n/64 == c.at })
		return answer{gone: gone}
	case there || slices.Contains(slices.Collect(maps.Values(p.table)), c.n):
		return full
	}
	p.table[c.at] = c.n
	return done
}

package tlb_test

import (
	"cmp"
	"fmt"
	"maps"
	"slices"

	"buttress/api"
	"buttress/tlb"
)

// key is a page of a space.
type key struct{ space, page int }

// noted is what a page is, and how many were filled in ahead of it.
type noted struct {
	p    api.Page
	when int
}

// plain is a TLB once more: what is remembered of each page, in no order, and when it was filled in.
type plain struct {
	room, filled int
	of           map[key]noted
}

func empty(room int) *plain { return &plain{room: room, of: map[key]noted{}} }

func (p *plain) copied() *plain { return &plain{p.room, p.filled, maps.Clone(p.of)} }

// lines are all that there are, in the order in which they were filled in.
func (p *plain) lines() []api.Line {
	keys := slices.SortedFunc(maps.Keys(p.of), func(a, b key) int {
		return cmp.Compare(p.of[a].when, p.of[b].when)
	})
	var l []api.Line
	for _, k := range keys {
		l = append(l, api.Line{Space: k.space, Page: k.page, P: p.of[k].p})
	}
	return l
}

// text tells all that a TLB may tell.
func (p *plain) text() string { return fmt.Sprint(p.room, p.lines()) }

// drop forgets those that a function names, and tells how many.
func (p *plain) drop(goes func(key, noted) bool) int {
	was := len(p.of)
	maps.DeleteFunc(p.of, goes)
	return was - len(p.of)
}

// call is one that may change a TLB.
type call struct {
	kind string
	l    api.Line // of Drop, Space and Frame some of its numbers
}

func line(space, page, frame, rights int) api.Line {
	return api.Line{Space: space, Page: page, P: api.Page{Frame: frame, Rights: rights}}
}

func fill(space, page, frame, rights int) call {
	return call{"Fill", line(space, page, frame, rights)}
}

func fillLine(l api.Line) call   { return call{"Fill", l} }
func drop(space, page int) call  { return call{"Drop", line(space, page, 0, 0)} }
func dropSpace(space int) call   { return call{"Space", line(space, 0, 0, 0)} }
func dropFrame(frame int) call   { return call{"Frame", line(0, 0, frame, 0)} }
func fills(l ...api.Line) []call { return each(fillLine, l) }

// each makes a call of each line.
func each(f func(api.Line) call, l []api.Line) []call {
	var calls []call
	for _, x := range l {
		calls = append(calls, f(x))
	}
	return calls
}

// of does a call, and tells how many lines it says went: Drop says one or none, Fill says nothing.
func (c call) of(t *tlb.Tlb) int {
	switch c.kind {
	case "Fill":
		t.Fill(c.l)
		return 0
	case "Drop":
		if t.Drop(c.l.Space, c.l.Page) {
			return 1
		}
		return 0
	case "Space":
		return t.Space(c.l.Space)
	case "Frame":
		return t.Frame(c.l.P.Frame)
	}
	panic(c.kind)
}

// ofPlain is P15.1 and P15.2 once more: it answers as of does, and changes p.
func (c call) ofPlain(p *plain) int {
	at := key{c.l.Space, c.l.Page}
	switch c.kind {
	case "Fill":
		if _, is := p.of[at]; !is && len(p.of) == p.room {
			oldest := p.lines()[0]
			delete(p.of, key{oldest.Space, oldest.Page})
		}
		p.of[at] = noted{c.l.P, p.filled}
		p.filled++
		return 0
	case "Drop":
		return p.drop(func(k key, _ noted) bool { return k == at })
	case "Space":
		return p.drop(func(k key, _ noted) bool { return k.space == at.space })
	case "Frame":
		return p.drop(func(_ key, n noted) bool { return n.p.Frame == c.l.P.Frame })
	}
	panic(c.kind)
}

package mailbox_test

import (
	"fmt"
	"slices"

	"buttress/api"
	"buttress/mailbox"
)

// letter is a message, and to whom it goes.
type letter struct {
	to int
	m  api.Mail
}

// plain are boxes once more: one heap of all letters that were not taken, in the order in which they were sent.
type plain struct {
	cores int
	heap  []letter
}

func (p *plain) copied() *plain { return &plain{p.cores, slices.Clone(p.heap)} }

func (p *plain) has(core int) bool { return 0 <= core && core < p.cores }

// box are all that go to a core.
func (p *plain) box(core int) []api.Mail {
	var box []api.Mail
	for _, x := range p.heap {
		if x.to == core {
			box = append(box, x.m)
		}
	}
	return box
}

// owed is how many are of a core.
func (p *plain) owed(core int) int {
	many := 0
	for _, x := range p.heap {
		if x.m.From == core {
			many++
		}
	}
	return many
}

// text tells all that boxes may tell.
func (p *plain) text() string {
	text := fmt.Sprint(p.cores)
	for core := range p.cores {
		text += fmt.Sprint(" ", p.box(core))
	}
	return text
}

// call is one that may change boxes.
type call struct {
	kind string
	to   int      // of Send alone
	m    api.Mail // of Take the core alone, as From
}

// answer is what a call says: Take alone says a message, and whether.
type answer struct {
	m  api.Mail
	is bool
	e  api.Errno
}

func mail(from, kind, about int) api.Mail { return api.Mail{From: from, Kind: kind, About: about} }

func send(from, to, kind, about int) call { return call{"Send", to, mail(from, kind, about)} }
func all(from, kind, about int) call      { return call{"All", 0, mail(from, kind, about)} }
func take(core int) call                  { return call{"Take", 0, mail(core, 0, 0)} }

// sends are so many of one core to another one, about 0, 1, 2 ..
func sends(from, to, many int) []call {
	var calls []call
	for i := range many {
		calls = append(calls, send(from, to, 3, i))
	}
	return calls
}

// of does a call.
func (c call) of(b *mailbox.Boxes) answer {
	switch c.kind {
	case "Send":
		return answer{e: b.Send(c.m.From, c.to, c.m.Kind, c.m.About)}
	case "All":
		return answer{e: b.All(c.m.From, c.m.Kind, c.m.About)}
	case "Take":
		m, is := b.Take(c.m.From)
		return answer{m: m, is: is}
	}
	panic(c.kind)
}

// ofPlain is P17.1 and P17.2 once more: it answers as of does, and changes p.
func (c call) ofPlain(p *plain) answer {
	switch c.kind {
	case "Send":
		if p.has(c.to) {
			return c.sendPlain(p, c.to)
		}
		return answer{e: api.ErrArg}
	case "All":
		return c.allPlain(p)
	case "Take":
		for i, x := range p.heap {
			if x.to == c.m.From {
				p.heap = slices.Delete(p.heap, i, i+1)
				return answer{m: x.m, is: true}
			}
		}
		return answer{}
	}
	panic(c.kind)
}

func (c call) sendPlain(p *plain, to int) answer {
	if !p.has(c.m.From) {
		return answer{e: api.ErrArg}
	}
	if to == c.m.From {
		return answer{e: api.ErrMailboxSelf}
	}
	if len(p.box(to)) == 64 {
		return answer{e: api.ErrBig}
	}
	p.heap = append(p.heap, letter{to, c.m})
	return answer{}
}

// allPlain sends one by one at a copy, which stays unless one of them was too much.
func (c call) allPlain(p *plain) answer {
	if !p.has(c.m.From) {
		return answer{e: api.ErrArg}
	}
	try := p.copied()
	for to := range p.cores {
		if a := c.sendPlain(try, to); to != c.m.From && a.e != api.OK {
			return a
		}
	}
	p.heap = try.heap
	return answer{}
}

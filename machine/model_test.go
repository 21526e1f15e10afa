package machine_test

import (
	"fmt"
	"slices"

	"buttress/api"
	"buttress/kernel"
)

// letter is about a page that whom it goes to is to forget.
type letter struct{ from, to, space, page int }

// plainCore is a core without its box.
type plainCore struct {
	does, call int
	told       api.Told
	lines      []api.Line
}

// plain is a machine once more: who stands in line is a list, all letters that nobody heard yet are in one heap.
type plain struct {
	k       *kernel.Kernel
	program []api.Call
	room    int
	line    []int
	heap    []letter
	cores   []plainCore
}

func begun(b api.Booted, program []api.Call, room int) *plain {
	k, _ := kernel.Boot(b)
	return &plain{k: k, program: slices.Clone(program), room: room, cores: make([]plainCore, b.Cores)}
}

func (p *plain) copied() *plain {
	c := *p
	c.k = p.k.Copy()
	c.line, c.heap, c.cores = slices.Clone(p.line), slices.Clone(p.heap), slices.Clone(p.cores)
	for i, x := range p.cores {
		c.cores[i].lines = slices.Clone(x.lines)
	}
	return &c
}

// letters are how many are from a core, and to a core (-1: any).
func (p *plain) letters(from, to int) int {
	many := 0
	for _, l := range p.heap {
		if (from < 0 || l.from == from) && (to < 0 || l.to == to) {
			many++
		}
	}
	return many
}

func (p *plain) forget(core, space, page int) {
	p.cores[core].lines = slices.DeleteFunc(p.cores[core].lines, func(l api.Line) bool { return l.Space == space && l.Page == page })
}

// tell sends a letter to all others, or, if one of them has too many, to none.
func (p *plain) tell(from, space, page int) {
	for to := range p.cores {
		if to != from && p.letters(-1, to) == 64 {
			return
		}
	}
	for to := range p.cores {
		if to != from {
			p.heap = append(p.heap, letter{from, to, space, page})
		}
	}
}

// step is P19.2 once more.
func (p *plain) step(x api.Item) (api.Seen, bool) {
	if x.Kind < 0 || x.Kind > 3 || x.Core < 0 || x.Core >= len(p.cores) || x.A < 0 || x.A > 255 || x.B < 0 || x.B > 255 {
		return api.Seen{}, false
	}
	switch {
	case x.Kind == api.ItemUser:
		return p.user(x)
	case x.Kind == api.ItemStep:
		return p.goes(x.Core)
	case len(p.line) > 0:
		return api.Seen{}, false
	case x.Kind == api.ItemIrq:
		s := api.Seen{Kind: api.SeenIrq, Core: x.Core, N: x.A}
		s.T.Wakes, s.T.E = p.k.Irq(x.A)
		return s, true
	}
	return api.Seen{Kind: api.SeenTick, Core: x.Core, Is: p.k.Tick(x.Core)}, true
}

func (p *plain) user(x api.Item) (api.Seen, bool) {
	c := &p.cores[x.Core]
	if c.does != api.Using {
		return api.Seen{}, false
	}
	if x.B == 0 {
		if x.A < len(p.program) {
			c.does, c.call = api.Wanting, x.A
		}
		return api.Seen{}, false
	}
	s := api.Seen{Kind: api.SeenLoad, Core: x.Core, N: x.A}
	for _, l := range c.lines {
		if l.Space == 0 && l.Page == x.A {
			s.P, s.Is = l.P, true
			return s, true
		}
	}
	for _, l := range p.k.Pages(0) {
		if l.At == x.A {
			s.P, s.Is = l.P, true
			if len(c.lines) == p.room {
				c.lines = slices.Delete(c.lines, 0, 1)
			}
			c.lines = append(c.lines, api.Line{Page: x.A, P: l.P})
		}
	}
	return s, true
}

func (p *plain) goes(core int) (api.Seen, bool) {
	for i, l := range p.heap {
		if l.to == core {
			p.heap = slices.Delete(p.heap, i, i+1)
			p.forget(core, l.space, l.page)
			return api.Seen{}, false
		}
	}
	c := &p.cores[core]
	s := api.Seen{Core: core, N: c.call}
	switch {
	case c.does == api.Wanting:
		c.does = api.Queued
		p.line = append(p.line, core)
		s.Kind = api.SeenEnter
		return s, true
	case c.does == api.Queued && p.line[0] == core:
		c.does, s.Kind = api.Waiting, api.SeenDid
		c.told = p.k.Do(core, p.program[c.call])
		for _, l := range c.told.Forget {
			p.forget(core, l.Space, l.Page)
			p.tell(core, l.Space, l.Page)
		}
		s.T = c.told
		return s, true
	case c.does == api.Waiting && p.letters(core, -1) == 0:
		c.does, s.Kind, s.T = api.Using, api.SeenLeft, c.told
		p.line = slices.Delete(p.line, 0, 1)
		return s, true
	}
	return api.Seen{}, false
}

// teller tells what a machine is.
type teller interface {
	Core(n int) (int, bool)
	Lines(n int) []api.Line
	Line() []int
	Owed(n int) int
	Held() []api.Held
	Pages(n int) []api.Laid
}

func (p *plain) has(n int) bool { return 0 <= n && n < len(p.cores) }

// shown tells a plain one as a machine does.
type shown struct{ *plain }

func (p shown) Core(n int) (int, bool) {
	if !p.has(n) {
		return 0, false
	}
	return p.cores[n].does, true
}

func (p shown) Lines(n int) []api.Line {
	if !p.has(n) {
		return nil
	}
	return p.cores[n].lines
}

func (p shown) Line() []int { return p.line }

func (p shown) Owed(n int) int {
	if n < 0 {
		return 0
	}
	return p.letters(n, -1)
}

func (p shown) Held() []api.Held       { return p.k.Held() }
func (p shown) Pages(n int) []api.Laid { return p.k.Pages(n) }

// text is all that is told of so many cores, and of those right beside them.
func text(m teller, cores int) string {
	s := fmt.Sprintln("line", m.Line(), "held", m.Held())
	for n := -1; n <= cores; n++ {
		does, is := m.Core(n)
		s += fmt.Sprintln("core", n, does, is, m.Lines(n), "owed", m.Owed(n))
	}
	for n := -1; n <= 2; n++ {
		s += fmt.Sprintln("space", n, m.Pages(n))
	}
	return s
}

func same(a, b api.Seen) bool {
	return a.Kind == b.Kind && a.Core == b.Core && a.N == b.N && a.P == b.P && a.Is == b.Is && sameTold(a.T, b.T)
}

func sameTold(a, b api.Told) bool {
	return a.E == b.E && a.W == b.W && a.Wakes == b.Wakes && slices.Equal(a.Forget, b.Forget)
}

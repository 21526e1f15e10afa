package threads_test

import (
	"cmp"
	"slices"

	"buttress/api"
	"buttress/threads"
)

// entry is a thread, and when it was lined up last.
type entry struct {
	api.Thread
	since int
}

// plain are threads once more, without queues: who stands ahead of whom is told by since.
type plain struct {
	cores, now int
	list       []entry
}

func (p plain) copied() plain {
	p.list = slices.Clone(p.list)
	return p
}

func (p plain) runs(core int) (int, bool) {
	for id, x := range p.list {
		if x.State == api.Running && x.Core == core {
			return id, true
		}
	}
	return 0, false
}

func (p plain) line(core, prio int) []int {
	var l []int
	for id, x := range p.list {
		if x.State == api.Ready && x.Core == core && x.Prio == prio {
			l = append(l, id)
		}
	}
	slices.SortFunc(l, func(a, b int) int { return cmp.Compare(p.list[a].since, p.list[b].since) })
	return l
}

// next is who is ready at a core, with the greatest priority, first in its line.
func (p plain) next(core int) (int, bool) {
	for prio := 255; prio >= 0; prio-- {
		if l := p.line(core, prio); len(l) > 0 {
			return l[0], true
		}
	}
	return 0, false
}

func (p *plain) lineUp(id int) {
	p.now++
	p.list[id].State, p.list[id].since = api.Ready, p.now
}

func (p *plain) pick(core int) (int, bool) {
	runs, is := p.runs(core)
	next, stands := p.next(core)
	switch {
	case is && (!stands || p.list[next].Prio <= p.list[runs].Prio):
		return runs, true
	case !stands:
		return 0, false
	case is:
		p.lineUp(runs)
	}
	p.list[next].State = api.Running
	return next, true
}

func (p *plain) yield(core int) bool {
	id, is := p.runs(core)
	if is {
		p.list[id].Left = 5
		p.lineUp(id)
		p.pick(core)
	}
	return is
}

func (p *plain) tick(core int) bool {
	id, is := p.runs(core)
	if is {
		p.list[id].Left--
		if p.list[id].Left == 0 {
			p.yield(core)
		}
	}
	return is
}

// call is one that may change threads. Of Make, a is the priority, of others that have one the thread; b is the core, the priority or the word; of Pick, Yield and Tick a is the core.
type call struct {
	kind string
	a, b int
	v    uint64
}

func create(prio, core int) call   { return call{"Make", prio, core, 0} }
func reg(id, i int, v uint64) call { return call{"Reg", id, i, v} }
func resume(id int) call           { return call{"Resume", id, 0, 0} }
func suspend(id int) call          { return call{"Suspend", id, 0, 0} }
func block(id int) call            { return call{"Block", id, 0, 0} }
func prio(id, p int) call          { return call{"Prio", id, p, 0} }
func core(id, c int) call          { return call{"Core", id, c, 0} }
func pick(c int) call              { return call{"Pick", c, 0, 0} }
func yield(c int) call             { return call{"Yield", c, 0, 0} }
func tick(c int) call              { return call{"Tick", c, 0, 0} }
func times(n int, c call) []call   { return slices.Repeat([]call{c}, n) }
func each(l []int, f func(int) call) []call {
	var calls []call
	for _, n := range l {
		calls = append(calls, f(n))
	}
	return calls
}

// answer is all that such a call may tell.
type answer struct {
	n  int
	is bool
	e  api.Errno
}

func (c call) of(k *threads.Threads) answer {
	switch c.kind {
	case "Make":
		n, e := k.Make(c.a, c.b)
		return answer{n: n, e: e}
	case "Reg":
		return answer{e: k.Reg(c.a, c.b, c.v)}
	case "Resume":
		return answer{e: k.Resume(c.a)}
	case "Suspend":
		return answer{e: k.Suspend(c.a)}
	case "Block":
		return answer{e: k.Block(c.a)}
	case "Prio":
		return answer{e: k.Prio(c.a, c.b)}
	case "Core":
		return answer{e: k.Core(c.a, c.b)}
	case "Pick":
		n, is := k.Pick(c.a)
		return answer{n: n, is: is}
	case "Yield":
		return answer{is: k.Yield(c.a)}
	case "Tick":
		return answer{is: k.Tick(c.a)}
	}
	panic(c.kind)
}

// ofPlain is P10.1 to P10.4 once more: it answers as of does, and changes p.
func (c call) ofPlain(p *plain) answer {
	switch c.kind {
	case "Make":
		if c.a < 0 || c.a > 255 || c.b < 0 || c.b >= p.cores {
			return answer{e: api.ErrArg}
		}
		if len(p.list) == 64 {
			return answer{e: api.ErrBig}
		}
		p.list = append(p.list, entry{Thread: api.Thread{State: api.Idle, Prio: c.a, Core: c.b, Left: 5}})
		return answer{n: len(p.list) - 1}
	case "Pick":
		n, is := p.pick(c.a)
		return answer{n: n, is: is}
	case "Yield":
		return answer{is: p.yield(c.a)}
	case "Tick":
		return answer{is: p.tick(c.a)}
	}
	if c.a < 0 || c.a >= len(p.list) {
		return answer{e: api.ErrThreadsNone}
	}
	return answer{e: c.ofThread(p, &p.list[c.a])}
}

// ofThread are those of a thread that is there.
func (c call) ofThread(p *plain, x *entry) api.Errno {
	idle, ready, running, blocked := x.State == api.Idle, x.State == api.Ready, x.State == api.Running, x.State == api.Blocked
	switch c.kind {
	case "Reg":
		if c.b < 0 || c.b > 7 {
			return api.ErrArg
		}
		x.Regs[c.b] = c.v
	case "Resume":
		if !idle && !blocked {
			return api.ErrThreadsState
		}
		p.lineUp(c.a)
	case "Suspend":
		if idle {
			return api.ErrThreadsState
		}
		x.State = api.Idle
	case "Block":
		if !running {
			return api.ErrThreadsState
		}
		x.State = api.Blocked
	case "Prio":
		if c.b < 0 || c.b > 255 {
			return api.ErrArg
		}
		x.Prio = c.b
		if ready {
			p.lineUp(c.a)
		}
	case "Core":
		if c.b < 0 || c.b >= p.cores {
			return api.ErrArg
		}
		if c.b != x.Core && (ready || running) {
			p.lineUp(c.a)
		}
		x.Core = c.b
	}
	return api.OK
}

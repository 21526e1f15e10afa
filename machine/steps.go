package machine

import (
	"slices"

	"buttress/api"
)

// nothing is of an item of which nothing is seen.
func nothing() (api.Seen, bool) {
	return api.Seen{}, false
}

// user is of a core's user: it looks at a page, or wants a call to be done.
func (m *Machine) user(x api.Item) (api.Seen, bool) {
	c := &m.cores[x.Core]
	if c.does != api.Using {
		return nothing()
	}
	if x.B > 0 {
		p, is := m.look(c, x.A)
		return api.Seen{Kind: api.SeenLoad, Core: x.Core, N: x.A, P: p, Is: is}, true
	}
	if x.A < len(m.program) {
		c.does, c.call = api.Wanting, x.A
	}
	return nothing()
}

// look tells what a page is, as far as a core knows; what it does not know it asks the kernel, and remembers it.
func (m *Machine) look(c *core, page int) (api.Page, bool) {
	if p, is := c.Look(userSpace, page); is {
		return p, true
	}
	pages := m.kernel.Pages(userSpace)
	i := slices.IndexFunc(pages, func(l api.Laid) bool { return l.At == page })
	if i < 0 {
		return api.Page{}, false
	}
	c.Fill(api.Line{Space: userSpace, Page: page, P: pages[i].P})
	return pages[i].P, true
}

// step lets a core hear of a page, and, if there is none to hear of, go on with its call.
func (m *Machine) step(n int) (api.Seen, bool) {
	c := &m.cores[n]
	if mail, is := m.boxes.Take(n); is {
		c.Drop(mail.About/spacePages, mail.About%spacePages)
		return nothing()
	}
	switch c.does {
	case api.Wanting:
		return m.enter(n), true
	case api.Queued:
		return m.do(n)
	case api.Waiting:
		return m.leave(n)
	}
	return nothing()
}

func (m *Machine) enter(n int) api.Seen {
	c := &m.cores[n]
	m.lock.Enter(n)
	c.does = api.Queued
	return api.Seen{Kind: api.SeenEnter, Core: n, N: c.call}
}

func (m *Machine) do(n int) (api.Seen, bool) {
	if holds, _ := m.lock.Probe(n); !holds {
		return nothing()
	}
	c := &m.cores[n]
	c.told = m.kernel.Do(n, m.program[c.call])
	for _, l := range c.told.Forget {
		c.Drop(l.Space, l.Page)
		// Who held the lock before was heard before it left, so that the boxes are empty ahead of these, and 64 of them have room.
		m.boxes.All(n, forget, l.Space*spacePages+l.Page)
	}
	c.does = api.Waiting
	return c.seen(api.SeenDid, n), true
}

func (m *Machine) leave(n int) (api.Seen, bool) {
	if m.boxes.Owed(n) > 0 {
		return nothing()
	}
	c := &m.cores[n]
	left := c.seen(api.SeenLeft, n)
	m.lock.Leave(n)
	*c = core{Tlb: c.Tlb, does: api.Using}
	return left, true
}

// seen is of a call that is done.
func (c *core) seen(kind, n int) api.Seen {
	t := c.told
	t.Forget = slices.Clone(t.Forget)
	return api.Seen{Kind: kind, Core: n, N: c.call, T: t}
}

func (m *Machine) irq(x api.Item) api.Seen {
	wakes, e := m.kernel.Irq(x.A)
	return api.Seen{Kind: api.SeenIrq, Core: x.Core, N: x.A, T: api.Told{E: e, Wakes: wakes}}
}

func (m *Machine) tick(x api.Item) api.Seen {
	return api.Seen{Kind: api.SeenTick, Core: x.Core, Is: m.kernel.Tick(x.Core)}
}

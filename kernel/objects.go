package kernel

import (
	"slices"

	"buttress/api"
	"buttress/caps"
	"buttress/endpoint"
	"buttress/lookup"
	"buttress/notify"
	"buttress/tables"
)

const (
	rootNode   = 0
	rootBits   = 6 // of that node, whose slots calls name
	maxThreads = 64
	places     = 64 // of a space
)

// whole is a capability with all rights.
func whole(kind, obj int) api.Cap {
	return api.Cap{Kind: kind, Obj: obj, Rights: api.All}
}

// slot is the slot of a slot number; no, if n is none.
func (k *Kernel) slot(n int) (api.Slot, bool) {
	// Of an address the bits above its depth do not count, so those of n are looked at here.
	if n < 0 || n >= 1<<rootBits {
		return api.Slot{}, false
	}
	s, e := lookup.Slot(k.nodes, whole(api.CapNode, rootNode), uint64(n), rootBits)
	return s, e == api.OK
}

// held is the slot of a slot number, and its capability; no, if n is none, or the slot is free.
func (k *Kernel) held(n int) (api.Slot, api.Cap, bool) {
	s, is := k.slot(n)
	if !is {
		return api.Slot{}, api.Cap{}, false
	}
	c, _ := k.nodes.Get(s)
	return s, c, c.Kind != api.CapNone
}

func (k *Kernel) taken(s api.Slot) bool {
	c, _ := k.nodes.Get(s)
	return c.Kind != api.CapNone
}

// free are so many slots, from number n on, if all of them are free.
func (k *Kernel) free(n, many int) ([]api.Slot, api.Errno) {
	var l []api.Slot
	for i := range many {
		s, is := k.slot(n + i)
		if !is {
			return nil, api.ErrKernelCap
		}
		l = append(l, s)
	}
	if slices.ContainsFunc(l, k.taken) {
		return nil, api.ErrSlotsFull
	}
	return l, api.OK
}

// hold puts a capability into a free slot, as one that came of what stands in from.
func (k *Kernel) hold(from, to api.Slot, c api.Cap) {
	k.nodes.Put(to, c)
	k.tree.Add(from, to)
}

// hasRoom tells whether so many more objects of a kind may be made.
func (k *Kernel) hasRoom(kind, many int) bool {
	// Neither numbers of nodes nor of threads are ever free again, so it is enough to look at the last one that has to be.
	switch kind {
	case api.CapNode:
		_, is := k.nodes.Size(api.MaxNodes - many)
		return !is
	case api.CapThread:
		_, e := k.threads.Get(maxThreads - many)
		return e != api.OK
	}
	return true
}

// object makes one, of a kind that memory becomes, of which there may be one more: its number. What the kind has no use for makes no difference.
func (k *Kernel) object(kind, bits int, base uint64, core int) int {
	n := 0
	switch kind {
	case api.CapUntyped:
		n = add(&k.memory, api.Untyped{Base: base, Bits: bits})
	case api.CapNode:
		n, _ = k.nodes.Make(bits)
	case api.CapThread:
		n, _ = k.threads.Make(0, core)
	case api.CapEndpoint:
		n = add(&k.endpoints, endpoint.New())
	case api.CapNotify:
		n = add(&k.notes, notify.New())
	case api.CapFrame:
		n = next(&k.frames)
	case api.CapTable:
		n = next(&k.tables)
	case api.CapSpace:
		n = add(&k.spaces, tables.New())
	}
	return n
}

func add[T any](l *[]T, x T) int {
	*l = append(*l, x)
	return len(*l) - 1
}

func next(many *int) int {
	*many++
	return *many - 1
}

// drop deletes a slot's capability, and with the last one to an object what must not outlive it: the pages that go so.
func (k *Kernel) drop(s api.Slot) []api.Line {
	k.tree.Take(s)
	c, _ := k.nodes.Take(s)
	if slices.ContainsFunc(k.nodes.Held(), func(h api.Held) bool { return caps.Same(h.C, c) }) {
		return nil
	}
	switch c.Kind {
	case api.CapThread:
		k.letGo(c.Obj)
		k.threads.Suspend(c.Obj)
	case api.CapFrame:
		return k.unmapFrame(c.Obj)
	case api.CapTable:
		return k.dropTable(c.Obj)
	}
	return nil
}

func (k *Kernel) unmapFrame(frame int) []api.Line {
	var gone []api.Line
	for n, s := range k.spaces {
		for _, page := range s.Frames(frame) {
			p, _ := s.Unmap(page)
			gone = append(gone, api.Line{Space: n, Page: page, P: p})
		}
	}
	return gone
}

// dropTable goes over all spaces, since nothing keeps a table out of a second one.
func (k *Kernel) dropTable(table int) []api.Line {
	var gone []api.Line
	for n, s := range k.spaces {
		for i := range places {
			if t, is := s.Has(i); !is || t != table {
				continue
			}
			pages, _ := s.Drop(i)
			for _, x := range pages {
				gone = append(gone, api.Line{Space: n, Page: x.At, P: x.P})
			}
		}
	}
	return gone
}

// letGo lets a thread wait nowhere any more.
func (k *Kernel) letGo(id int) {
	for _, p := range k.endpoints {
		p.Cancel(id)
	}
	for _, n := range k.notes {
		n.Cancel(id)
	}
}

// wake is of a thread that waits nowhere any more.
func (k *Kernel) wake(id int) int {
	k.threads.Resume(id)
	return id
}

// words makes a thread's first words these.
func (k *Kernel) words(id int, l ...uint64) {
	for i, v := range l {
		k.threads.Reg(id, i, v)
	}
}

// raise signals a notification: who was woken.
func (k *Kernel) raise(note int, badge uint64) int {
	who, word, gets := k.notes[note].Signal(badge)
	if !gets {
		return nobody
	}
	k.words(who, word)
	return k.wake(who)
}

// pass signals what a line tells to be signalled, if it tells any: who was woken.
func (k *Kernel) pass(note int, badge uint64, is bool, e api.Errno) (int, api.Errno) {
	if !is {
		return nobody, e
	}
	return k.raise(note, badge), e
}

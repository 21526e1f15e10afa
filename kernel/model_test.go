package kernel_test

import (
	"cmp"
	"fmt"
	"maps"
	"slices"

	"buttress/api"
	"buttress/caps"
	"buttress/untyped"
)

// knot is a slot of the tree, with the knots of what came of it, the newest first.
type knot struct {
	slot int
	kids []*knot
}

func (x *knot) copied() *knot {
	c := &knot{slot: x.slot}
	for _, kid := range x.kids {
		c.kids = append(c.kids, kid.copied())
	}
	return c
}

// under are the slots of all knots below this one, in order.
func (x *knot) under() []int {
	var l []int
	for _, kid := range x.kids {
		l = append(append(l, kid.slot), kid.under()...)
	}
	return l
}

// of is the knot that has a slot's among its kids, and which one that is.
func (x *knot) of(slot int) (*knot, int) {
	for i, kid := range x.kids {
		if kid.slot == slot {
			return x, i
		}
		if y, j := kid.of(slot); y != nil {
			return y, j
		}
	}
	return nil, 0
}

func (x *knot) find(slot int) *knot {
	y, i := x.of(slot)
	return y.kids[i]
}

// line is one that interrupts.
type line struct {
	bound, open, again bool
	note               int
	badge              uint64
}

// note is a notification, without those that wait.
type note struct {
	is   bool
	word uint64
}

// thread is one, with when it was lined up last, and what it waits for.
type thread struct {
	api.Thread
	since int
	waits int // AskSend, AskRecv, AskWait; 0: for nothing
	obj   int // at which endpoint, or notification
	words [3]uint64
}

// space has all its pages in one heap, beside which tables are where.
type space struct {
	table map[int]int
	page  map[int]api.Page
}

// plain is a kernel once more: who waits where, and in which order, is told by threads alone, what came of what by knots.
type plain struct {
	cores, now                       int
	nodes, endpoints, frames, tables int
	caps                             map[int]api.Cap
	top                              *knot
	threads                          []thread
	memory                           []api.Untyped
	notes                            []note
	spaces                           []space
	lines                            [8]line
}

func begun(b api.Booted) *plain {
	p := &plain{cores: b.Cores, nodes: 1, caps: map[int]api.Cap{}, top: &knot{slot: -1}}
	p.memory = []api.Untyped{{Bits: b.Bits}}
	p.spaces = []space{{map[int]int{}, map[int]api.Page{}}}
	p.root(api.CapNode, 0)
	p.root(api.CapUntyped, 0)
	for i, prio := range b.Prios {
		p.threads = append(p.threads, thread{Thread: api.Thread{State: api.Running, Prio: prio, Core: i, Left: 5}})
		p.root(api.CapThread, i)
	}
	p.root(api.CapSpace, 0)
	for i := range b.Lines {
		p.root(api.CapIrq, i)
	}
	return p
}

func (p *plain) root(kind, obj int) {
	n := len(p.caps)
	p.caps[n] = api.Cap{Kind: kind, Obj: obj, Rights: 7}
	p.top.kids = append(p.top.kids, &knot{slot: n})
}

func (p *plain) copied() *plain {
	c := *p
	c.caps = maps.Clone(p.caps)
	c.top = p.top.copied()
	c.threads = slices.Clone(p.threads)
	c.memory = slices.Clone(p.memory)
	c.notes = slices.Clone(p.notes)
	c.spaces = nil
	for _, s := range p.spaces {
		c.spaces = append(c.spaces, space{maps.Clone(s.table), maps.Clone(s.page)})
	}
	return &c
}

// at is the thread that runs, or the best of those that are ready, at a core; -1, if there is none.
func (p *plain) at(core, state int) int {
	best := -1
	for id, x := range p.threads {
		if x.Core != core || x.State != state {
			continue
		}
		if best < 0 || x.Prio > p.threads[best].Prio || x.Prio == p.threads[best].Prio && x.since < p.threads[best].since {
			best = id
		}
	}
	return best
}

func (p *plain) lineUp(id int) {
	p.now++
	p.threads[id].State, p.threads[id].since = api.Ready, p.now
}

func (p *plain) pick(core int) int {
	runs, next := p.at(core, api.Running), p.at(core, api.Ready)
	if next < 0 || runs >= 0 && p.threads[next].Prio <= p.threads[runs].Prio {
		return runs
	}
	if runs >= 0 {
		p.lineUp(runs)
	}
	p.threads[next].State = api.Running
	return next
}

func (p *plain) yield(core int) {
	id := p.at(core, api.Running)
	p.threads[id].Left = 5
	p.lineUp(id)
	p.pick(core)
}

func (p *plain) tick(core int) bool {
	id := p.at(core, api.Running)
	if id < 0 {
		return false
	}
	if p.threads[id].Left--; p.threads[id].Left == 0 {
		p.yield(core)
	}
	return true
}

// waits are those that wait for something, in the order in which they came.
func (p *plain) waits(ask, obj int) []int {
	var l []int
	for id, x := range p.threads {
		if x.waits == ask && x.obj == obj {
			l = append(l, id)
		}
	}
	slices.SortFunc(l, func(a, b int) int { return cmp.Compare(p.threads[a].since, p.threads[b].since) })
	return l
}

// rest lets a thread wait, if it will.
func (p *plain) rest(id int, c api.Call, obj int, words [3]uint64) {
	if c.C == 0 {
		return
	}
	p.now++
	x := &p.threads[id]
	x.State, x.since, x.waits, x.obj, x.words = api.Blocked, p.now, c.Ask, obj, words
	p.pick(x.Core)
}

// wake is of one that waits for nothing any more.
func (p *plain) wake(id int) api.Told {
	p.threads[id].waits = 0
	p.lineUp(id)
	return wakes(id)
}

func (p *plain) signal(n int, badge uint64) api.Told {
	if l := p.waits(api.AskWait, n); len(l) > 0 {
		p.threads[l[0]].Regs[0] = badge
		return p.wake(l[0])
	}
	p.notes[n] = note{true, p.notes[n].word | badge}
	return done
}

func (p *plain) irq(n int) (int, api.Errno) {
	if n < 0 || n > 7 {
		return -1, api.ErrIrqNone
	}
	x := &p.lines[n]
	if x.bound && x.open {
		x.open = false
		return p.signal(x.note, x.badge).Wakes, api.OK
	}
	x.again = x.bound
	return -1, api.OK
}

func (p *plain) ack(n int) api.Told {
	x := &p.lines[n]
	if x.again {
		x.again = false
		return p.signal(x.note, x.badge)
	}
	x.open = x.bound
	return done
}

// drop deletes a slot's capability: the pages that go.
func (p *plain) drop(slot int) []api.Line {
	c := p.caps[slot]
	delete(p.caps, slot)
	x, i := p.top.of(slot)
	x.kids = slices.Replace(x.kids, i, i+1, x.kids[i].kids...)
	for _, other := range p.caps {
		if other.Kind == c.Kind && other.Obj == c.Obj {
			return nil
		}
	}
	if c.Kind == api.CapThread {
		p.threads[c.Obj].State, p.threads[c.Obj].waits = api.Idle, 0
	}
	var gone []api.Line
	for n, s := range p.spaces {
		for _, page := range slices.Sorted(maps.Keys(s.page)) {
			table, is := s.table[page/64]
			if c.Kind == api.CapFrame && s.page[page].Frame == c.Obj || c.Kind == api.CapTable && is && table == c.Obj {
				gone = append(gone, api.Line{Space: n, Page: page, P: s.page[page]})
				delete(s.page, page)
			}
		}
		if c.Kind == api.CapTable {
			maps.DeleteFunc(s.table, func(_, table int) bool { return table == c.Obj })
		}
	}
	return gone
}

// kinds are what calls go by: At's, the rights of it, With's; 0 where it makes no difference.
var kinds = map[int][3]int{
	api.AskRetype: {api.CapUntyped}, api.AskMint: {}, api.AskMove: {}, api.AskDelete: {}, api.AskRevoke: {},
	api.AskResume: {api.CapThread}, api.AskSuspend: {api.CapThread}, api.AskPrio: {api.CapThread},
	api.AskSend: {api.CapEndpoint, api.Write}, api.AskRecv: {api.CapEndpoint, api.Read},
	api.AskSignal: {api.CapNotify, api.Write}, api.AskWait: {api.CapNotify, api.Read},
	api.AskTable: {api.CapTable, 0, api.CapSpace}, api.AskMap: {api.CapFrame, 0, api.CapSpace}, api.AskUnmap: {api.CapSpace},
	api.AskBind: {api.CapIrq, 0, api.CapNotify}, api.AskAck: {api.CapIrq},
}

func (p *plain) do(core int, c api.Call) api.Told {
	who := -1
	if core >= 0 && core < p.cores {
		who = p.pick(core)
	}
	if who < 0 {
		return fails(api.ErrKernelState)
	}
	if c.Ask == api.AskYield {
		p.yield(core)
		return done
	}
	k, is := kinds[c.Ask]
	if !is {
		return fails(api.ErrKernelLabel)
	}
	at, is := p.caps[c.At]
	with, isWith := p.caps[c.With]
	if !is || k[0] != 0 && at.Kind != k[0] || at.Rights&k[1] != k[1] || k[2] != 0 && (!isWith || with.Kind != k[2]) {
		return fails(api.ErrKernelCap)
	}
	switch c.Ask {
	case api.AskRetype, api.AskMint, api.AskMove:
		return p.hold(core, c, at)
	case api.AskDelete, api.AskRevoke:
		return p.lose(c, at)
	case api.AskResume, api.AskSuspend, api.AskPrio:
		return p.steer(c, at.Obj)
	case api.AskTable, api.AskMap, api.AskUnmap:
		return p.lay(c, at, with.Obj)
	case api.AskBind:
		if p.lines[at.Obj].bound {
			return fails(api.ErrIrqBusy)
		}
		p.lines[at.Obj] = line{bound: true, open: true, note: with.Obj, badge: with.Badge}
		return done
	case api.AskAck:
		return p.ack(at.Obj)
	}
	return p.talk(who, c, at)
}

// free is what is wrong with so many slots from one on, if they are to be filled.
func (p *plain) free(n, many int) api.Errno {
	if n < 0 || n > 63 || many > 64-n {
		return api.ErrKernelCap
	}
	for i := range many {
		if _, is := p.caps[n+i]; is {
			return api.ErrSlotsFull
		}
	}
	return api.OK
}

func (p *plain) came(of, slot int, c api.Cap) {
	p.caps[slot] = c
	x := p.top.find(of)
	x.kids = append([]*knot{{slot: slot}}, x.kids...)
}

func (p *plain) hold(core int, c api.Call, at api.Cap) api.Told {
	if c.Ask == api.AskRetype {
		return p.retype(core, c, at.Obj)
	}
	if c.Ask == api.AskMint && at.Kind == api.CapUntyped {
		return fails(api.ErrKernelCap)
	}
	if e := p.free(c.With, 1); e != api.OK {
		return fails(e)
	}
	if c.Ask == api.AskMove {
		p.caps[c.With] = at
		delete(p.caps, c.At)
		p.top.find(c.At).slot = c.With
		return done
	}
	minted, e := caps.Mint(at, c.A, uint64(c.B))
	if e != api.OK {
		return fails(e)
	}
	p.came(c.At, c.With, minted)
	return done
}

func (p *plain) retype(core int, c api.Call, from int) api.Told {
	places, used, e := untyped.Place(p.memory[from], c.A, c.B, c.C)
	if e != api.OK {
		return fails(e)
	}
	if e := p.free(c.With, c.C); e != api.OK {
		return fails(e)
	}
	if c.A == api.CapNode && p.nodes+c.C > 64 || c.A == api.CapThread && len(p.threads)+c.C > 64 {
		return fails(api.ErrBig)
	}
	p.memory[from] = used
	for i := range c.C {
		p.came(c.At, c.With+i, api.Cap{Kind: c.A, Obj: p.object(core, c, places[i]), Rights: 7})
	}
	return done
}

// object makes one: its number.
func (p *plain) object(core int, c api.Call, place uint64) int {
	switch c.A {
	case api.CapUntyped:
		p.memory = append(p.memory, api.Untyped{Base: place, Bits: c.B})
		return len(p.memory) - 1
	case api.CapNode:
		p.nodes++
		return p.nodes - 1
	case api.CapThread:
		p.threads = append(p.threads, thread{Thread: api.Thread{Core: core, Left: 5}})
		return len(p.threads) - 1
	case api.CapEndpoint:
		p.endpoints++
		return p.endpoints - 1
	case api.CapNotify:
		p.notes = append(p.notes, note{})
		return len(p.notes) - 1
	case api.CapFrame:
		p.frames++
		return p.frames - 1
	case api.CapTable:
		p.tables++
		return p.tables - 1
	case api.CapSpace:
		p.spaces = append(p.spaces, space{map[int]int{}, map[int]api.Page{}})
		return len(p.spaces) - 1
	}
	panic(c.A)
}

func (p *plain) lose(c api.Call, at api.Cap) api.Told {
	if c.Ask == api.AskDelete {
		if c.At == 0 {
			return fails(api.ErrKernelCap)
		}
		return forgets(p.drop(c.At)...)
	}
	told := done
	under := p.top.find(c.At).under()
	told.W = uint64(len(under))
	for _, slot := range slices.Backward(under) {
		told.Forget = append(told.Forget, p.drop(slot)...)
	}
	if at.Kind == api.CapUntyped {
		p.memory[at.Obj].Used = 0
	}
	return told
}

func (p *plain) steer(c api.Call, id int) api.Told {
	x := &p.threads[id]
	switch {
	case c.Ask == api.AskPrio && (c.A < 0 || c.A > 255):
		return fails(api.ErrArg)
	case c.Ask == api.AskPrio:
		x.Prio = c.A
		if x.State == api.Ready {
			p.lineUp(id)
		}
	case c.Ask == api.AskResume && (x.State == api.Ready || x.State == api.Running), c.Ask == api.AskSuspend && x.State == api.Idle:
		return fails(api.ErrThreadsState)
	case c.Ask == api.AskResume:
		return p.wake(id)
	case c.Ask == api.AskSuspend:
		x.State, x.waits = api.Idle, 0
	}
	return done
}

func (p *plain) lay(c api.Call, at api.Cap, with int) api.Told {
	if c.Ask == api.AskUnmap {
		with = at.Obj
	}
	s := p.spaces[with]
	was, mapped := s.page[c.A]
	_, there := s.table[c.A/64]
	switch {
	case c.Ask == api.AskTable:
		return fails(p.table(s, c.A, at.Obj))
	case c.A < 0 || c.A > 4095:
		return fails(api.ErrArg)
	case !there || c.Ask == api.AskUnmap && !mapped:
		return fails(api.ErrTablesNone)
	case c.Ask == api.AskUnmap:
		delete(s.page, c.A)
		return forgets(api.Line{Space: with, Page: c.A, P: was})
	case mapped:
		return fails(api.ErrTablesFull)
	}
	s.page[c.A] = api.Page{Frame: at.Obj, Rights: at.Rights & (c.B & 7)}
	return done
}

func (p *plain) table(s space, i, table int) api.Errno {
	if i < 0 || i > 63 {
		return api.ErrArg
	}
	if _, is := s.table[i]; is || slices.Contains(slices.Collect(maps.Values(s.table)), table) {
		return api.ErrTablesFull
	}
	s.table[i] = table
	return api.OK
}

func (p *plain) talk(who int, c api.Call, at api.Cap) api.Told {
	words := [3]uint64{}
	switch c.Ask {
	case api.AskSend:
		words = [3]uint64{at.Badge, uint64(c.A), uint64(c.B)}
		if l := p.waits(api.AskRecv, at.Obj); len(l) > 0 {
			copy(p.threads[l[0]].Regs[:], words[:])
			return p.wake(l[0])
		}
	case api.AskRecv:
		if l := p.waits(api.AskSend, at.Obj); len(l) > 0 {
			copy(p.threads[who].Regs[:], p.threads[l[0]].words[:])
			return p.wake(l[0])
		}
	case api.AskSignal:
		return p.signal(at.Obj, at.Badge)
	case api.AskWait:
		if n := p.notes[at.Obj]; n.is {
			p.notes[at.Obj] = note{}
			return tells(n.word)
		}
	}
	p.rest(who, c, at.Obj, words)
	return done
}

// held are all capabilities, in order.
func (p *plain) held() []api.Held {
	var l []api.Held
	for _, n := range slices.Sorted(maps.Keys(p.caps)) {
		l = append(l, api.Held{At: api.Slot{I: n}, C: p.caps[n]})
	}
	return l
}

func (p *plain) tree() []api.Slot {
	var l []api.Slot
	for _, n := range p.top.under() {
		l = append(l, api.Slot{I: n})
	}
	return l
}

func (p *plain) pages(n int) []api.Laid {
	var l []api.Laid
	for _, page := range slices.Sorted(maps.Keys(p.spaces[n].page)) {
		l = append(l, api.Laid{At: page, P: p.spaces[n].page[page]})
	}
	return l
}

// teller is what tells a kernel's state: the kernel itself, and what it should be.
type teller interface {
	Held() []api.Held
	Tree() []api.Slot
	Thread(id int) (api.Thread, api.Errno)
	Untyped(n int) (api.Untyped, bool)
	Waits(n int) ([]int, bool)
	Word(n int) (uint64, bool)
	Pages(n int) []api.Laid
	Runs(core int) (int, bool)
}

// shown makes of a plain one a teller.
type shown struct{ p *plain }

func (s shown) Held() []api.Held { return s.p.held() }
func (s shown) Tree() []api.Slot { return s.p.tree() }

func (s shown) Thread(id int) (api.Thread, api.Errno) {
	if id < 0 || id >= len(s.p.threads) {
		return api.Thread{}, api.ErrThreadsNone
	}
	return s.p.threads[id].Thread, api.OK
}

func (s shown) Untyped(n int) (api.Untyped, bool) {
	if n < 0 || n >= len(s.p.memory) {
		return api.Untyped{}, false
	}
	return s.p.memory[n], true
}

func (s shown) Waits(n int) ([]int, bool) {
	if l := s.p.waits(api.AskSend, n); len(l) > 0 {
		return l, true
	}
	return s.p.waits(api.AskRecv, n), false
}

func (s shown) Word(n int) (uint64, bool) {
	if n < 0 || n >= len(s.p.notes) {
		return 0, false
	}
	return s.p.notes[n].word, s.p.notes[n].is
}

func (s shown) Pages(n int) []api.Laid {
	if n < 0 || n >= len(s.p.spaces) {
		return nil
	}
	return s.p.pages(n)
}

func (s shown) Runs(core int) (int, bool) {
	if id := s.p.at(core, api.Running); id >= 0 {
		return id, true
	}
	return 0, false
}

// text is all that a teller tells of what there may be in a plain one, and of what there is not.
func (p *plain) text(s teller) string {
	text := fmt.Sprintln("held", s.Held(), "tree", s.Tree())
	for n := -1; n <= len(p.threads); n++ {
		x, e := s.Thread(n)
		text += fmt.Sprintln("thread", n, x, e)
	}
	for n := -1; n <= len(p.memory); n++ {
		u, is := s.Untyped(n)
		text += fmt.Sprintln("untyped", n, u, is)
	}
	for n := -1; n <= p.endpoints; n++ {
		l, sends := s.Waits(n)
		text += fmt.Sprintln("waits", n, l, sends)
	}
	for n := -1; n <= len(p.notes); n++ {
		word, is := s.Word(n)
		text += fmt.Sprintln("word", n, word, is)
	}
	for n := -1; n <= len(p.spaces); n++ {
		text += fmt.Sprintln("pages", n, s.Pages(n))
	}
	for core := -1; core <= p.cores; core++ {
		id, is := s.Runs(core)
		text += fmt.Sprintln("runs", core, id, is)
	}
	return text
}

var done = api.Told{Wakes: -1}

func fails(e api.Errno) api.Told        { return api.Told{E: e, Wakes: -1} }
func tells(word uint64) api.Told        { return api.Told{W: word, Wakes: -1} }
func wakes(id int) api.Told             { return api.Told{Wakes: id} }
func forgets(gone ...api.Line) api.Told { return api.Told{Wakes: -1, Forget: gone} }
func same(a, b api.Told) bool           { return fmt.Sprint(a) == fmt.Sprint(b) }
func away(s, n, frame, r int) api.Line {
	return api.Line{Space: s, Page: n, P: api.Page{Frame: frame, Rights: r}}
}
func laid(n, frame, rights int) api.Laid {
	return api.Laid{At: n, P: api.Page{Frame: frame, Rights: rights}}
}

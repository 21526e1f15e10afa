package kernel

import (
	"buttress/api"
	"buttress/caps"
	"buttress/untyped"
)

// need is which capabilities a call goes by: the kind of At's, a right of it, the kind of With's.
type need struct{ kind, right, with int }

// needs are by what is asked. CapNone is for a kind that makes no difference, and for a With of which no capability is told.
var needs = [api.Asks]need{
	api.AskRetype:  {kind: api.CapUntyped},
	api.AskResume:  {kind: api.CapThread},
	api.AskSuspend: {kind: api.CapThread},
	api.AskPrio:    {kind: api.CapThread},
	api.AskSend:    {kind: api.CapEndpoint, right: api.Write},
	api.AskRecv:    {kind: api.CapEndpoint, right: api.Read},
	api.AskSignal:  {kind: api.CapNotify, right: api.Write},
	api.AskWait:    {kind: api.CapNotify, right: api.Read},
	api.AskTable:   {kind: api.CapTable, with: api.CapSpace},
	api.AskMap:     {kind: api.CapFrame, with: api.CapSpace},
	api.AskUnmap:   {kind: api.CapSpace},
	api.AskBind:    {kind: api.CapIrq, with: api.CapNotify},
	api.AskAck:     {kind: api.CapIrq},
}

// deed is a call that is being done: at which core, of whom, and by what.
type deed struct {
	api.Call
	core, who int
	from      api.Slot // At's
	cap       api.Cap  // in it
	other     api.Cap  // in With's slot, if the call needs one there
}

// deeds are what calls do, by what they ask. They are asked of calls whose capabilities are such as they need, AskYield's apart.
func (k *Kernel) deeds() map[int]func(deed) api.Told {
	return map[int]func(deed) api.Told{
		api.AskRetype:  k.retype,
		api.AskMint:    k.mint,
		api.AskMove:    k.move,
		api.AskDelete:  k.remove,
		api.AskRevoke:  k.revoke,
		api.AskResume:  k.resume,
		api.AskSuspend: k.suspend,
		api.AskPrio:    k.prio,
		api.AskSend:    k.send,
		api.AskRecv:    k.receive,
		api.AskSignal:  k.signal,
		api.AskWait:    k.wait,
		api.AskTable:   k.table,
		api.AskMap:     k.lay,
		api.AskUnmap:   k.unmap,
		api.AskBind:    k.bind,
		api.AskAck:     k.ack,
		api.AskYield:   k.yield,
	}
}

// find puts in what a call goes by; no, if it is not there, or not such as the call needs.
func (k *Kernel) find(d *deed) bool {
	n := needs[d.Ask]
	var is bool
	d.from, d.cap, is = k.held(d.At)
	if !is || !ofKind(d.cap, n.kind) || d.cap.Rights&n.right != n.right {
		return false
	}
	if n.with == api.CapNone {
		return true
	}
	_, d.other, is = k.held(d.With)
	return is && ofKind(d.other, n.with)
}

func ofKind(c api.Cap, kind int) bool {
	return kind == api.CapNone || c.Kind == kind
}

// told is what a call comes to that says no more than whether it is done.
func told(e api.Errno) api.Told {
	return api.Told{E: e, Wakes: nobody}
}

func (k *Kernel) retype(d deed) api.Told {
	places, used, e := untyped.Place(k.memory[d.cap.Obj], d.A, d.B, d.C)
	if e != api.OK {
		return told(e)
	}
	to, e := k.free(d.With, len(places))
	if e != api.OK {
		return told(e)
	}
	if !k.hasRoom(d.A, len(places)) {
		return told(api.ErrBig)
	}
	k.memory[d.cap.Obj] = used
	for i, s := range to {
		k.hold(d.from, s, whole(d.A, k.object(d.A, d.B, places[i], d.core)))
	}
	return told(api.OK)
}

func (k *Kernel) mint(d deed) api.Told {
	// Memory that two capabilities are to could be revoked by the one while objects of the other stand in it.
	if d.cap.Kind == api.CapUntyped {
		return told(api.ErrKernelCap)
	}
	to, e := k.free(d.With, 1)
	if e != api.OK {
		return told(e)
	}
	c, e := caps.Mint(d.cap, d.A, uint64(d.B))
	if e != api.OK {
		return told(e)
	}
	k.hold(d.from, to[0], c)
	return told(api.OK)
}

func (k *Kernel) move(d deed) api.Told {
	to, e := k.free(d.With, 1)
	if e != api.OK {
		return told(e)
	}
	k.nodes.Move(d.from, to[0])
	k.tree.Move(d.from, to[0])
	return told(api.OK)
}

func (k *Kernel) remove(d deed) api.Told {
	if d.At == 0 {
		return told(api.ErrKernelCap)
	}
	t := told(api.OK)
	t.Forget = k.drop(d.from)
	return t
}

func (k *Kernel) revoke(d deed) api.Told {
	t := told(api.OK)
	under := k.tree.Under(d.from)
	for i := len(under) - 1; i >= 0; i-- {
		t.Forget = append(t.Forget, k.drop(under[i])...)
	}
	t.W = uint64(len(under))
	if d.cap.Kind == api.CapUntyped {
		k.memory[d.cap.Obj] = untyped.Reset(k.memory[d.cap.Obj])
	}
	return t
}

func (k *Kernel) resume(d deed) api.Told {
	if x, _ := k.threads.Get(d.cap.Obj); x.State == api.Blocked {
		k.letGo(d.cap.Obj)
	}
	if e := k.threads.Resume(d.cap.Obj); e != api.OK {
		return told(e)
	}
	t := told(api.OK)
	t.Wakes = d.cap.Obj
	return t
}

func (k *Kernel) suspend(d deed) api.Told {
	k.letGo(d.cap.Obj)
	return told(k.threads.Suspend(d.cap.Obj))
}

func (k *Kernel) prio(d deed) api.Told {
	return told(k.threads.Prio(d.cap.Obj, d.A))
}

func (k *Kernel) send(d deed) api.Told {
	m := api.Msg{Label: d.A, W: [4]uint64{uint64(d.B)}, Badge: d.cap.Badge}
	met, e := k.endpoints[d.cap.Obj].Send(d.who, m, d.C != 0)
	return k.meet(d, met, met.To, e)
}

func (k *Kernel) receive(d deed) api.Told {
	met, e := k.endpoints[d.cap.Obj].Recv(d.who, d.C != 0)
	return k.meet(d, met, met.From, e)
}

// meet is what comes of a try to meet somebody; the other one is who waited, if they met.
func (k *Kernel) meet(d deed, met api.Met, other int, e api.Errno) api.Told {
	if e != api.OK {
		return told(e)
	}
	if !met.Is {
		return k.restIfAsked(d)
	}
	k.words(met.To, met.M.Badge, uint64(met.M.Label), met.M.W[0])
	t := told(api.OK)
	t.Wakes = k.wake(other)
	return t
}

func (k *Kernel) signal(d deed) api.Told {
	t := told(api.OK)
	t.Wakes = k.raise(d.cap.Obj, d.cap.Badge)
	return t
}

func (k *Kernel) wait(d deed) api.Told {
	word, is, e := k.notes[d.cap.Obj].Wait(d.who, d.C != 0)
	if e != api.OK {
		return told(e)
	}
	if !is {
		return k.restIfAsked(d)
	}
	t := told(api.OK)
	t.W = word
	return t
}

func (k *Kernel) table(d deed) api.Told {
	return told(k.spaces[d.other.Obj].Table(d.A, d.cap.Obj))
}

func (k *Kernel) lay(d deed) api.Told {
	// A capability has no rights but those of All, so that B's higher bits go, too.
	p := api.Page{Frame: d.cap.Obj, Rights: d.cap.Rights & d.B}
	return told(k.spaces[d.other.Obj].Map(d.A, p))
}

func (k *Kernel) unmap(d deed) api.Told {
	p, e := k.spaces[d.cap.Obj].Unmap(d.A)
	if e != api.OK {
		return told(e)
	}
	t := told(api.OK)
	t.Forget = []api.Line{{Space: d.cap.Obj, Page: d.A, P: p}}
	return t
}

func (k *Kernel) bind(d deed) api.Told {
	return told(k.lines.Bind(d.cap.Obj, d.other.Obj, d.other.Badge))
}

func (k *Kernel) ack(d deed) api.Told {
	wakes, e := k.pass(k.lines.Ack(d.cap.Obj))
	t := told(e)
	t.Wakes = wakes
	return t
}

func (k *Kernel) yield(d deed) api.Told {
	k.threads.Yield(d.core)
	return told(api.OK)
}

// restIfAsked is of a call that got nothing.
func (k *Kernel) restIfAsked(d deed) api.Told {
	if d.C != 0 {
		k.threads.Block(d.who)
		k.threads.Pick(d.core)
	}
	return told(api.OK)
}

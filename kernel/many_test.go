package kernel_test

import (
	"fmt"
	"slices"
	"testing"

	"buttress/api"
	"buttress/caps"
	"buttress/kernel"
	"buttress/untyped"
)

// TestAllThree: any three of some calls, one behind the other.
func TestAllThree(t *testing.T) {
	start := one(t, retype(1, 10, api.CapThread, 0, 1), prio(10, 5), resume(10), retype(1, 11, api.CapEndpoint, 0, 1), mint(11, 12, 7, 9), retype(1, 13, api.CapNotify, 0, 1), mint(13, 14, 7, 4),
		retype(1, 15, api.CapFrame, 0, 1), retype(1, 16, api.CapTable, 0, 1), table(16, 3, 0), lay(15, 3, 1, 3), bind(4, 14))
	calls := []api.Call{
		send(12, 1, 2), trySend(11, 3, 4), recv(12), tryRecv(11), signal(14), wait(13), ack(4), yield(),
		resume(10), suspend(10), resume(2), prio(10, 9), prio(2, 4),
		remove(10), remove(11), remove(12), remove(15), remove(16), move(11, 20), mint(12, 21, 1, 0), revoke(1), revoke(11), revoke(13),
		lay(15, 3, 2, 1), unmap(3, 1), retype(1, 21, api.CapEndpoint, 0, 1),
	}
	for _, a := range calls {
		first := start.copied()
		first.follows(t, a)
		first.line(t, 0)
		for _, b := range calls {
			second := first.copied()
			second.follows(t, b)
			second.line(t, 0)
			for _, c := range calls {
				second.copied().follows(t, c)
			}
		}
	}
}

// line raises one, at both.
func (w *pair) line(t *testing.T, n int) {
	t.Helper()
	who, e := w.p.irq(n)
	if gotWho, gotE := w.k.Irq(n); gotWho != who || gotE != e {
		t.Fatalf("Irq(%d) = %d, %d, not %d, %d; then there is\n%s", n, gotWho, gotE, who, e, w.p.text(shown{w.p}))
	}
	w.looks(t, fmt.Sprint("Irq ", n))
}

func (w *pair) ticks(t *testing.T, core int) {
	t.Helper()
	want := w.p.tick(core)
	if got := w.k.Tick(core); got != want {
		t.Fatalf("Tick(%d) = %v, not %v", core, got, want)
	}
	w.looks(t, fmt.Sprint("Tick ", core))
}

// row is a row of numbers that is the same at every run.
type row uint64

func (r *row) next(n int) int {
	*r = *r*6364136223846793005 + 1442695040888963407
	return int(*r>>33) % n
}

func (r *row) of(l ...int) int { return l[r.next(len(l))] }

// slot is one with a capability of a kind (0: any), if there is one; now and then it is any number.
func (r *row) slot(held []api.Held, kind int) int {
	var l []int
	for _, h := range held {
		if kind == 0 || h.C.Kind == kind {
			l = append(l, h.At.I)
		}
	}
	if len(l) == 0 || r.next(30) == 0 {
		return r.next(68) - 2
	}
	return r.of(l...)
}

// free is a slot that is free most times.
func (r *row) free(held []api.Held) int {
	for range 20 {
		n := r.next(64)
		if !slices.ContainsFunc(held, func(h api.Held) bool { return h.At.I == n }) {
			return n
		}
	}
	return r.next(70) - 3
}

// asks are what calls ask, the frequent ones more often.
var asks = []int{
	api.AskRetype, api.AskRetype, api.AskRetype, api.AskRetype, api.AskRetype, api.AskMint, api.AskMint, api.AskMint, api.AskMove, api.AskDelete, api.AskDelete,
	api.AskResume, api.AskResume, api.AskResume, api.AskSuspend, api.AskPrio, api.AskPrio,
	api.AskSend, api.AskSend, api.AskSend, api.AskRecv, api.AskRecv, api.AskRecv, api.AskSignal, api.AskSignal, api.AskWait, api.AskWait, api.AskWait,
	api.AskTable, api.AskTable, api.AskMap, api.AskMap, api.AskMap, api.AskMap, api.AskUnmap, api.AskUnmap, api.AskUnmap, api.AskBind, api.AskAck, api.AskYield,
}

func (r *row) call(k *kernel.Kernel) api.Call {
	held := k.Held()
	c := api.Call{Ask: asks[r.next(len(asks))], With: r.free(held), A: r.next(11), B: r.next(9), C: r.of(0, 1, 1, 2, 3)}
	// If too many rest nobody is left that could wake them.
	if c.Ask != api.AskRetype && spare(k) < 2 && r.next(20) > 0 {
		c.C = 0
	}
	switch r.next(100) {
	case 0, 1, 2:
		c.Ask = api.AskRevoke
	case 3:
		c.Ask = r.of(-1, api.Asks)
	}
	need := kinds[c.Ask]
	c.At = r.slot(held, need[0])
	if need[2] != 0 {
		c.With = r.slot(held, need[2])
	}
	switch c.Ask {
	case api.AskRevoke:
		c.At = r.of(c.At, c.At, 1)
	case api.AskRetype:
		c.B = r.of(0, 1, 2, 4, 5, 6, 8, 9, 10, 12)
		if r.next(40) == 0 {
			c.C = r.of(0, 30, 64, 65)
		}
	case api.AskMint:
		c.A, c.B = r.of(-1, 0, 1, 2, 3, 5, 6, 7, 7, 7, 7, 8), r.of(0, 0, 0, 1, 2, 4, -1)
	case api.AskPrio:
		c.A = r.of(-1, 0, 1, 2, 3, 4, 255, 256)
	case api.AskTable:
		c.A = r.of(-1, 0, 1, 63, 64)
	case api.AskMap, api.AskUnmap:
		c.A = r.of(-1, 0, 1, 1, 1, 2, 2, 63, 64, 64, 65, 4032, 4095, 4096)
	}
	return c
}

var booteds = []api.Booted{
	{Cores: 1, Bits: 20, Lines: 1, Prios: []int{2}},
	{Cores: 1, Bits: 9, Lines: 8, Prios: []int{255}},
	{Cores: 2, Bits: 12, Lines: 3, Prios: []int{2, 2}},
	{Cores: 3, Bits: 10, Lines: 0, Prios: []int{0, 1, 2}},
	{Cores: 8, Bits: 16, Lines: 2, Prios: []int{1, 2, 3, 1, 2, 3, 1, 2}},
}

// spare is how many threads can run.
func spare(k *kernel.Kernel) int {
	many := 0
	for id := range 64 {
		if x, _ := k.Thread(id); x.State == api.Ready || x.State == api.Running {
			many++
		}
	}
	return many
}

// furnished are calls that make some of everything, of a kernel that was booted so.
func furnished(b api.Booted) []api.Call {
	space := 2 + b.Cores
	return []api.Call{
		retype(1, 40, api.CapThread, 0, 3), resume(40), resume(41), resume(42), retype(1, 43, api.CapEndpoint, 0, 1), retype(1, 44, api.CapNotify, 0, 1),
		retype(1, 45, api.CapTable, 0, 1), retype(1, 46, api.CapFrame, 0, 2), table(45, space, 0), lay(46, space, 1, 7), mint(44, 48, 7, 8),
	}
}

// TestManyCalls: whatever was done, a kernel tells what is told once more; copies of earlier stay, and go on in their originals' place.
func TestManyCalls(t *testing.T) {
	at := row(18)
	well := map[int]int{}
	for round := range 80 {
		b := booteds[round%len(booteds)]
		w := fresh(t, b)
		w.does(t, furnished(b)...)
		var earlier []*pair
		for step := 0; step < 300 && spare(w.k) > 0; step++ {
			if w.core = at.next(b.Cores); at.next(60) == 0 {
				w.core = at.of(-1, b.Cores)
			}
			c := at.call(w.k)
			if w.k.Copy().Do(w.core, c).E == api.OK {
				well[c.Ask]++
			}
			w.follows(t, c)
			if at.next(8) == 0 {
				w.line(t, at.next(10)-1)
			}
			if at.next(8) == 0 {
				w.ticks(t, at.next(b.Cores))
			}
			if step%50 == 25 {
				earlier = append(earlier, w.copied())
			}
			if step%40 == 35 {
				w = w.copied()
			}
		}
		for _, c := range earlier {
			c.looks(t, "a copy of earlier")
		}
	}
	for ask := range api.Asks {
		if well[ask] < 20 {
			t.Errorf("what asks %d was done %d times alone", ask, well[ask])
		}
	}
}

// extent is where an object is: from, up to, which memory it was made of.
type extent struct {
	from, to uint64
	of       int
}

type object struct{ kind, obj int }

// TestP185 asks of a kernel alone: an error changes nothing but who runs; no object that a capability is to is over another one; what came of a capability goes with its revoke, and has no more rights.
func TestP185(t *testing.T) {
	at := row(185)
	failed, revoked, made := 0, 0, 0
	for round := range 40 {
		b := booteds[round%len(booteds)]
		k, _ := kernel.Boot(b)
		where := map[object]extent{}
		first := furnished(b)
		for step := 0; step < 200 && spare(k) > 0; step++ {
			core, c := at.next(b.Cores), at.call(k)
			if step < len(first) {
				core, c = 0, first[step]
			}
			k.Do(core, api.Call{Ask: -1})
			held, tree := k.Held(), k.Tree()
			was := ""
			if k.Copy().Do(core, c).E != api.OK {
				was = all(k)
			}
			told := k.Do(core, c)
			if told.E != api.OK {
				failed++
				if is := all(k); is != was || told.W != 0 || told.Wakes != -1 || len(told.Forget) != 0 {
					t.Fatalf("%+v is told %+v, and there was\n%s\nand there is\n%s", c, told, was, is)
				}
				continue
			}
			switch c.Ask {
			case api.AskRetype:
				made++
				place(t, where, c, held, k)
			case api.AskRevoke:
				revoked += gone(t, core, c, tree, k, told)
			}
			apart(t, c, where, k)
			sound(t, core, c, k)
			if at.next(2) == 0 && len(tree) > 0 {
				derives(t, core, tree[at.next(len(tree))], k)
			}
		}
	}
	if failed < 1000 || revoked < 100 || made < 150 {
		t.Errorf("only %d failed, %d were revoked, %d times some were made", failed, revoked, made)
	}
}

// all is what a kernel tells of the first ones of everything.
func all(k *kernel.Kernel) string {
	p := &plain{cores: 8, threads: make([]thread, 16), memory: make([]api.Untyped, 8), endpoints: 8, notes: make([]note, 8), spaces: make([]space, 5)}
	return p.text(k)
}

// place notes where objects were made: behind what was used, as far as it is used now.
func place(t *testing.T, where map[object]extent, c api.Call, held []api.Held, k *kernel.Kernel) {
	t.Helper()
	i := slices.IndexFunc(held, func(h api.Held) bool { return h.At.I == c.At })
	of := held[i].C.Obj
	memory, _ := k.Untyped(of)
	size, _ := untyped.Size(c.A, c.B)
	for j := range c.C {
		to := memory.Base + memory.Used - uint64(c.C-1-j)<<size
		i := slices.IndexFunc(k.Held(), func(h api.Held) bool { return h.At.I == c.With+j })
		o := object{c.A, k.Held()[i].C.Obj}
		if _, is := where[o]; is {
			t.Fatalf("%+v made %+v again", c, o)
		}
		where[o] = extent{to - 1<<size, to, of}
		if u, _ := k.Untyped(o.obj); c.A == api.CapUntyped && (u.Base != to-1<<size || u.Bits != c.B || u.Used != 0) {
			t.Fatalf("%+v made %+v, which ends at %d", c, u, to)
		}
	}
}

// gone holds all that was under what was revoked to be free, and all else to be there; how many went.
func gone(t *testing.T, core int, c api.Call, before []api.Slot, k *kernel.Kernel, told api.Told) int {
	t.Helper()
	tree := k.Tree()
	if len(before)-len(tree) != int(told.W) || len(k.Held()) != len(tree) {
		t.Fatalf("%+v is told %+v; there were %v, there are %v", c, told, before, tree)
	}
	i := slices.Index(before, api.Slot{I: c.At})
	if want := slices.Delete(slices.Clone(before), i+1, i+1+int(told.W)); !slices.Equal(tree, want) {
		t.Fatalf("%+v is told %+v; there were %v, there are %v", c, told, before, tree)
	}
	// Who called may be among those that went.
	if again := k.Copy().Do(core, c); again.W != 0 || again.E != api.OK && again.E != api.ErrKernelState {
		t.Fatalf("%+v is told %+v again", c, again)
	}
	return int(told.W)
}

// apart holds all objects that capabilities are to to be where no other one is, but memory that they were made of.
func apart(t *testing.T, c api.Call, where map[object]extent, k *kernel.Kernel) {
	t.Helper()
	live := map[object]extent{}
	for _, h := range k.Held() {
		o := object{h.C.Kind, h.C.Obj}
		if x, is := where[o]; is {
			live[o] = x
		}
	}
	for a, x := range live {
		for b, y := range live {
			if a == b || x.to <= y.from || y.to <= x.from || within(where, a, b) || within(where, b, a) {
				continue
			}
			t.Fatalf("behind %+v %+v at %+v is over %+v at %+v", c, a, x, b, y)
		}
	}
}

// within tells whether a was made of b, or of what was made of b.
func within(where map[object]extent, a, b object) bool {
	for {
		x, is := where[a]
		if !is {
			return false
		}
		a = object{api.CapUntyped, x.of}
		if a == b {
			return true
		}
	}
}

// sound holds the tree to have just the slots that have a capability, each once.
func sound(t *testing.T, core int, c api.Call, k *kernel.Kernel) {
	t.Helper()
	tree := k.Tree()
	slices.SortFunc(tree, func(a, b api.Slot) int { return a.I - b.I })
	var held []api.Slot
	for _, h := range k.Held() {
		held = append(held, h.At)
		if e := caps.Check(h.C); e != api.OK || h.At.Node != 0 {
			t.Fatalf("at core %d behind %+v there is %+v", core, c, h)
		}
	}
	if !slices.Equal(tree, held) {
		t.Fatalf("at core %d behind %+v there are %v in the tree, and %v", core, c, tree, held)
	}
}

// derives holds what is under a slot, of those to the same object, to have no more rights.
func derives(t *testing.T, core int, s api.Slot, k *kernel.Kernel) {
	t.Helper()
	of := map[api.Slot]api.Cap{}
	for _, h := range k.Held() {
		of[h.At] = h.C
	}
	tree := k.Tree()
	i := slices.Index(tree, s)
	under := k.Copy().Do(core, revoke(s.I)).W
	for _, kid := range tree[i+1 : i+1+int(under)] {
		if caps.Same(of[s], of[kid]) && !caps.Derives(of[s], of[kid]) {
			t.Fatalf("%+v came of %+v", of[kid], of[s])
		}
	}
}

// TestOneAnswer: R5: the same calls are answered the same at every run of them.
func TestOneAnswer(t *testing.T) {
	var first string
	for run := range 4 {
		at := row(55)
		k, _ := kernel.Boot(booteds[2])
		got := ""
		for range 600 {
			c := at.call(k)
			got += fmt.Sprintln(c, k.Do(at.next(2), c), k.Held(), k.Tree(), k.Pages(0))
		}
		if run == 0 {
			first = got
		}
		if got != first {
			t.Fatal("run ", run, " is another one")
		}
	}
}

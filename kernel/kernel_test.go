package kernel_test

import (
	"fmt"
	"math"
	"slices"
	"strings"
	"testing"

	"buttress/api"
	"buttress/kernel"
)

var (
	far     = []int{math.MinInt, math.MinInt + 1, -1 << 32, -65, -64, -2, -1, 64, 65, 127, 128, 1 << 32, math.MaxInt - 1, math.MaxInt}
	noSlots = far // a slot number is 0 to 63
)

func retype(at, with, kind, bits, many int) api.Call {
	return api.Call{Ask: api.AskRetype, At: at, With: with, A: kind, B: bits, C: many}
}
func mint(at, with, rights, badge int) api.Call {
	return api.Call{Ask: api.AskMint, At: at, With: with, A: rights, B: badge}
}
func move(at, with int) api.Call { return api.Call{Ask: api.AskMove, At: at, With: with} }
func remove(at int) api.Call     { return api.Call{Ask: api.AskDelete, At: at} }
func revoke(at int) api.Call     { return api.Call{Ask: api.AskRevoke, At: at} }
func resume(at int) api.Call     { return api.Call{Ask: api.AskResume, At: at} }
func suspend(at int) api.Call    { return api.Call{Ask: api.AskSuspend, At: at} }
func prio(at, p int) api.Call    { return api.Call{Ask: api.AskPrio, At: at, A: p} }
func send(at, label, word int) api.Call {
	return api.Call{Ask: api.AskSend, At: at, A: label, B: word, C: 1}
}
func trySend(at, label, word int) api.Call {
	return api.Call{Ask: api.AskSend, At: at, A: label, B: word}
}
func recv(at int) api.Call            { return api.Call{Ask: api.AskRecv, At: at, C: 1} }
func tryRecv(at int) api.Call         { return api.Call{Ask: api.AskRecv, At: at} }
func signal(at int) api.Call          { return api.Call{Ask: api.AskSignal, At: at} }
func wait(at int) api.Call            { return api.Call{Ask: api.AskWait, At: at, C: 1} }
func tryWait(at int) api.Call         { return api.Call{Ask: api.AskWait, At: at} }
func table(at, space, i int) api.Call { return api.Call{Ask: api.AskTable, At: at, With: space, A: i} }
func lay(at, space, page, rights int) api.Call {
	return api.Call{Ask: api.AskMap, At: at, With: space, A: page, B: rights}
}
func unmap(at, page int) api.Call { return api.Call{Ask: api.AskUnmap, At: at, A: page} }
func bind(at, with int) api.Call  { return api.Call{Ask: api.AskBind, At: at, With: with} }
func ack(at int) api.Call         { return api.Call{Ask: api.AskAck, At: at} }
func yield() api.Call             { return api.Call{Ask: api.AskYield} }

func whole(kind, obj int) api.Cap { return api.Cap{Kind: kind, Obj: obj, Rights: api.All} }

func slotsOf(l ...int) []api.Slot {
	var s []api.Slot
	for _, n := range l {
		s = append(s, api.Slot{I: n})
	}
	return s
}

// pair is a kernel, and what it should be; its calls are done at one core.
type pair struct {
	k    *kernel.Kernel
	p    *plain
	core int
}

func fresh(t *testing.T, b api.Booted) *pair {
	t.Helper()
	k, e := kernel.Boot(b)
	if e != api.OK {
		t.Fatalf("Boot(%+v) = %d", b, e)
	}
	w := &pair{k: k, p: begun(b)}
	w.looks(t, fmt.Sprint("Boot ", b))
	return w
}

// one has slots 0 node, 1 untyped, 2 thread 0 of priority 5, 3 space, 4 line 0.
func one(t *testing.T, calls ...api.Call) *pair {
	t.Helper()
	w := fresh(t, api.Booted{Cores: 1, Bits: 20, Lines: 1, Prios: []int{5}})
	w.does(t, calls...)
	return w
}

// two has slots 0 node, 1 untyped, 2 and 3 threads 0 and 1 of a core each, 4 space, 5 and 6 lines 0 and 1.
func two(t *testing.T, calls ...api.Call) *pair {
	t.Helper()
	w := fresh(t, api.Booted{Cores: 2, Bits: 20, Lines: 2, Prios: []int{5, 6}})
	w.does(t, calls...)
	return w
}

func (w *pair) copied() *pair { return &pair{w.k.Copy(), w.p.copied(), w.core} }

func (w *pair) looks(t *testing.T, what string) {
	t.Helper()
	got, want := w.p.text(w.k), w.p.text(shown{w.p})
	if got == want {
		return
	}
	wants := strings.Split(want, "\n")
	for i, line := range strings.Split(got, "\n") {
		if i >= len(wants) || line != wants[i] {
			t.Fatalf("%s: the kernel tells\n%s\nnot\n%s", what, line, wants[min(i, len(wants)-1)])
		}
	}
	t.Fatalf("%s: the kernel tells less than\n%s", what, want)
}

// follows does calls at both, and holds them to each other behind each.
func (w *pair) follows(t *testing.T, calls ...api.Call) {
	t.Helper()
	for _, c := range calls {
		want := w.p.do(w.core, c)
		if got := w.k.Do(w.core, c); !same(got, want) {
			t.Fatalf("at core %d %+v is told %+v, not %+v; then there is\n%s", w.core, c, got, want, w.p.text(shown{w.p}))
		}
		w.looks(t, fmt.Sprintf("at core %d %+v", w.core, c))
	}
}

// does follows calls of which none may fail.
func (w *pair) does(t *testing.T, calls ...api.Call) {
	t.Helper()
	for _, c := range calls {
		if told := w.k.Copy().Do(w.core, c); told.E != api.OK {
			t.Fatalf("at core %d %+v is told %+v", w.core, c, told)
		}
		w.follows(t, c)
	}
}

// told holds a call to what is told here, beside what follows holds it to.
func (w *pair) told(t *testing.T, c api.Call, want api.Told) {
	t.Helper()
	if got := w.k.Copy().Do(w.core, c); !same(got, want) {
		t.Fatalf("at core %d %+v is told %+v, not %+v", w.core, c, got, want)
	}
	w.follows(t, c)
}

// refuses holds calls to an error, and to change nothing that is told, or comes of the same calls later.
func (w *pair) refuses(t *testing.T, e api.Errno, calls ...api.Call) {
	t.Helper()
	// Who is to run is picked by a call with an error, too.
	w.k.Do(w.core, api.Call{Ask: -1})
	w.p.do(w.core, api.Call{Ask: -1})
	for _, c := range calls {
		was := w.p.text(w.k)
		w.told(t, c, fails(e))
		if is := w.p.text(w.k); is != was {
			t.Fatalf("%+v fails, and there was\n%s\nand there is\n%s", c, was, is)
		}
	}
}

func (w *pair) irq(t *testing.T, line, wantWho int, wantE api.Errno) {
	t.Helper()
	who, e := w.k.Irq(line)
	if who != wantWho || e != wantE {
		t.Fatalf("Irq(%d) = %d, %d, not %d, %d", line, who, e, wantWho, wantE)
	}
	if who, e := w.p.irq(line); who != wantWho || e != wantE {
		t.Fatalf("Irq(%d) should be %d, %d, not %d, %d", line, who, e, wantWho, wantE)
	}
	w.looks(t, fmt.Sprint("Irq ", line))
}

func (w *pair) tick(t *testing.T, core int, want bool) {
	t.Helper()
	if got := w.k.Tick(core); got != want || w.p.tick(core) != want {
		t.Fatalf("Tick(%d) = %v, not %v", core, got, want)
	}
	w.looks(t, fmt.Sprint("Tick ", core))
}

// has holds a slot to its capability; CapNone: it is free.
func (w *pair) has(t *testing.T, slot int, want api.Cap) {
	t.Helper()
	got := api.Cap{}
	for _, h := range w.k.Held() {
		if h.At == (api.Slot{I: slot}) {
			got = h.C
		}
	}
	if got != want {
		t.Fatalf("slot %d has %+v, not %+v", slot, got, want)
	}
}

func (w *pair) isFree(t *testing.T, slots ...int) {
	t.Helper()
	for _, n := range slots {
		w.has(t, n, api.Cap{})
	}
}

func (w *pair) tree(t *testing.T, want ...int) {
	t.Helper()
	if got := w.k.Tree(); !slices.Equal(got, slotsOf(want...)) {
		t.Fatalf("the tree is %v, not %v", got, want)
	}
}

func (w *pair) state(t *testing.T, id, want int) {
	t.Helper()
	if x, e := w.k.Thread(id); x.State != want || e != api.OK {
		t.Fatalf("thread %d is %+v, %d, not in state %d", id, x, e, want)
	}
}

func (w *pair) words(t *testing.T, id int, want ...uint64) {
	t.Helper()
	var l [8]uint64
	copy(l[:], want)
	if x, e := w.k.Thread(id); x.Regs != l || e != api.OK {
		t.Fatalf("thread %d is %+v, %d, without the words %v", id, x, e, want)
	}
}

func (w *pair) runs(t *testing.T, core, want int) {
	t.Helper()
	if id, is := w.k.Runs(core); id != want || !is {
		t.Fatalf("at core %d runs %d, %v, not %d", core, id, is, want)
	}
}

func (w *pair) waits(t *testing.T, n int, wantSends bool, want ...int) {
	t.Helper()
	if l, sends := w.k.Waits(n); !slices.Equal(l, want) || sends != wantSends {
		t.Fatalf("at endpoint %d wait %v, %v, not %v, %v", n, l, sends, want, wantSends)
	}
}

func (w *pair) word(t *testing.T, n int, want uint64, wantIs bool) {
	t.Helper()
	if word, is := w.k.Word(n); word != want || is != wantIs {
		t.Fatalf("notification %d has %d, %v, not %d, %v", n, word, is, want, wantIs)
	}
}

func (w *pair) pages(t *testing.T, n int, want ...api.Laid) {
	t.Helper()
	if l := w.k.Pages(n); !slices.Equal(l, want) {
		t.Fatalf("space %d has %v, not %v", n, l, want)
	}
}

func (w *pair) used(t *testing.T, n int, want uint64) {
	t.Helper()
	if u, is := w.k.Untyped(n); u.Used != want || !is {
		t.Fatalf("memory %d is %+v, %v, of which not %d is used", n, u, is, want)
	}
}

// helper makes a thread, in slot at, of a priority, that is ready.
func helper(at, p int) []api.Call {
	return []api.Call{retype(1, at, api.CapThread, 0, 1), prio(at, p), resume(at)}
}

// ---- examples

func TestExample(t *testing.T) {
	w := one(t)
	w.told(t, retype(1, 20, api.CapEndpoint, 1, 1), done)
	w.has(t, 20, whole(api.CapEndpoint, 0))
	w.told(t, mint(20, 21, api.Write, 7), done)
	w.has(t, 21, api.Cap{Kind: api.CapEndpoint, Rights: api.Write, Badge: 7})
	w.told(t, revoke(1), tells(2))
	w.isFree(t, 20, 21)
}

// TestExamplesOfTheWhole: those of DOC.md that one kernel can show.
func TestExamplesOfTheWhole(t *testing.T) {
	w := two(t)
	// 1: slot 20's came of slot 1's.
	w.does(t, retype(1, 20, api.CapEndpoint, 0, 1))
	w.tree(t, 0, 1, 20, 2, 3, 4, 5, 6)
	// 2: it can send, and not receive.
	w.does(t, mint(20, 21, api.Write, 9))
	w.refuses(t, api.ErrKernelCap, tryRecv(21), recv(21))
	w.told(t, trySend(21, 1, 2), done)
	// 4: who receives has the badge, the label, the word, and can run.
	w.core = 1
	w.does(t, recv(20))
	w.core = 0
	w.told(t, send(21, 3, 4), wakes(1))
	w.words(t, 1, 9, 3, 4)
	w.state(t, 1, api.Ready)
	// 3: both are free, and the memory is not used any more.
	w.told(t, revoke(1), tells(2))
	w.isFree(t, 20, 21)
	w.used(t, 0, 0)
	// 5: raised again, it is not signalled, until it was heard.
	w.does(t, retype(1, 22, api.CapNotify, 0, 1), mint(22, 23, api.All, 4), bind(5, 23))
	w.irq(t, 0, -1, api.OK)
	w.word(t, 0, 4, true)
	w.told(t, tryWait(22), tells(4))
	w.irq(t, 0, -1, api.OK)
	w.word(t, 0, 0, false)
	w.told(t, ack(5), done)
	w.word(t, 0, 4, true)
	// 6: page 3 is mapped. 8, 9: who unmaps it is told what is to be forgotten.
	w.does(t, retype(1, 30, api.CapFrame, 0, 1), retype(1, 31, api.CapTable, 0, 1), table(31, 4, 0), lay(30, 4, 3, api.Read))
	w.pages(t, 0, laid(3, 0, api.Read))
	w.told(t, unmap(4, 3), forgets(away(0, 3, 0, api.Read)))
	w.pages(t, 0)
}

// ---- P18.1

func TestP181Boot(t *testing.T) {
	for cores := 1; cores <= 8; cores++ {
		for _, bits := range []int{4, 5, 12, 19, 20} {
			for _, lines := range []int{0, 1, 7, 8} {
				prios := []int{0, 255, 7, 7, 254, 1, 0, 255}[:cores]
				w := fresh(t, api.Booted{Cores: cores, Bits: bits, Lines: lines, Prios: prios})
				want := []api.Cap{whole(api.CapNode, 0), whole(api.CapUntyped, 0)}
				for i, p := range prios {
					want = append(want, whole(api.CapThread, i))
					if x, e := w.k.Thread(i); x != (api.Thread{State: api.Running, Prio: p, Core: i, Left: 5}) || e != api.OK {
						t.Fatal(i, x, e)
					}
					w.runs(t, i, i)
				}
				want = append(want, whole(api.CapSpace, 0))
				for i := range lines {
					want = append(want, whole(api.CapIrq, i))
				}
				var roots []int
				for i, c := range want {
					w.has(t, i, c)
					roots = append(roots, i)
				}
				if n := len(w.k.Held()); n != len(want) {
					t.Fatal(n, want)
				}
				w.tree(t, roots...)
				if u, is := w.k.Untyped(0); u != (api.Untyped{Bits: bits}) || !is {
					t.Fatal(u, is)
				}
				w.pages(t, 0)
			}
		}
	}
}

func TestP181Wrong(t *testing.T) {
	good := api.Booted{Cores: 2, Bits: 10, Lines: 2, Prios: []int{3, 4}}
	fresh(t, good)
	wrong := []api.Booted{{}}
	with := func(change func(b *api.Booted)) {
		b := good
		change(&b)
		wrong = append(wrong, b)
	}
	for _, n := range append(slices.Clone(far), 0, 9, 10) {
		with(func(b *api.Booted) { b.Cores = n })
		with(func(b *api.Booted) { b.Cores, b.Prios = n, nil })
		if n > 0 && n < 200 {
			with(func(b *api.Booted) { b.Cores, b.Prios = n, make([]int, n) })
		}
	}
	for _, n := range append(slices.Clone(far), 0, 1, 3, 21, 22) {
		with(func(b *api.Booted) { b.Bits = n })
	}
	for _, n := range append(slices.Clone(far), 9, 10) {
		with(func(b *api.Booted) { b.Lines = n })
	}
	for _, l := range [][]int{nil, {}, {3}, {3, 4, 5}, make([]int, 8)} {
		with(func(b *api.Booted) { b.Prios = l })
	}
	for _, n := range []int{math.MinInt, -256, -1, 256, 257, 1 << 32, math.MaxInt} {
		with(func(b *api.Booted) { b.Prios = []int{n, 4} })
		with(func(b *api.Booted) { b.Prios = []int{3, n} })
	}
	for _, b := range wrong {
		if k, e := kernel.Boot(b); k != nil || e != api.ErrArg {
			t.Errorf("Boot(%+v) = %v, %d", b, k, e)
		}
	}
}

func TestP181PriosAreTheCallers(t *testing.T) {
	l := []int{1, 2, 3, 4}
	b := api.Booted{Cores: 2, Bits: 8, Prios: l[:2]}
	w := fresh(t, b)
	if !slices.Equal(l, []int{1, 2, 3, 4}) {
		t.Error(l)
	}
	l[0], l[1] = 200, 201
	if x, _ := w.k.Thread(0); x.Prio != 1 {
		t.Error(x)
	}
	if x, _ := w.k.Thread(1); x.Prio != 2 {
		t.Error(x)
	}
}

// TestP181Roots: nothing is under any of them.
func TestP181Roots(t *testing.T) {
	w := fresh(t, api.Booted{Cores: 3, Bits: 8, Lines: 3, Prios: []int{1, 2, 3}})
	for n := range 9 {
		w.told(t, revoke(n), done)
	}
	for _, n := range []int{8, 7, 6, 5, 4, 3, 1, 2} {
		w.told(t, remove(n), done)
	}
	w.tree(t, 0)
	for id := range 3 {
		w.state(t, id, api.Idle)
	}
}

// TestP181EightLines: there are as many, whichever of them have capabilities.
func TestP181EightLines(t *testing.T) {
	for _, lines := range []int{0, 1, 8} {
		w := fresh(t, api.Booted{Cores: 1, Bits: 8, Lines: lines, Prios: []int{0}})
		for n := range 8 {
			w.irq(t, n, -1, api.OK)
		}
		for _, n := range []int{math.MinInt, -1, 8, 9, 63, 64, math.MaxInt} {
			w.irq(t, n, -1, api.ErrIrqNone)
		}
	}
}

func TestBootedApart(t *testing.T) {
	a, b := one(t), one(t)
	a.does(t, retype(1, 20, api.CapEndpoint, 0, 2), retype(1, 30, api.CapThread, 0, 1))
	b.looks(t, "another kernel was changed")
	b.does(t, retype(1, 20, api.CapNotify, 0, 2))
	a.looks(t, "another kernel was changed")
}

// ---- P18.2: ahead of what is asked

// allAsks are calls of each kind that name nothing wrong of themselves.
func allAsks() []api.Call {
	var l []api.Call
	for ask := range api.Asks {
		l = append(l, api.Call{Ask: ask, At: 1, With: 40, A: api.CapEndpoint, C: 1})
	}
	return l
}

func TestP182NobodyRuns(t *testing.T) {
	w := two(t)
	for _, core := range append(slices.Clone(far), 2, 3, 7, 8) {
		w.core = core
		w.refuses(t, api.ErrKernelState, allAsks()...)
		w.refuses(t, api.ErrKernelState, api.Call{Ask: -1}, api.Call{Ask: api.Asks}, api.Call{At: -1})
	}
	w.core = 0
	w.told(t, suspend(3), done)
	w.core = 1
	w.refuses(t, api.ErrKernelState, allAsks()...)
	w.refuses(t, api.ErrKernelState, api.Call{Ask: -1}, api.Call{Ask: api.Asks}, api.Call{At: -1})
	// Resumed elsewhere it can run again, and does, as soon as something is called.
	w.core = 0
	w.told(t, resume(3), wakes(1))
	w.state(t, 1, api.Ready)
	w.core = 1
	w.told(t, tryRecv(1), fails(api.ErrKernelCap))
	w.runs(t, 1, 1)
}

// TestP182Pick: who is to run is picked ahead of the call, of one that fails, too.
func TestP182Pick(t *testing.T) {
	for _, c := range []api.Call{{Ask: -1}, {Ask: api.Asks}, {Ask: api.AskMint, At: -1}, {Ask: api.AskMint, At: 50}, remove(0), suspend(50)} {
		w := one(t, helper(20, 6)...)
		w.runs(t, 0, 0)
		if told := w.k.Copy().Do(0, c); told.E == api.OK {
			t.Fatal(c, told)
		}
		w.follows(t, c)
		w.runs(t, 0, 1)
		w.state(t, 0, api.Ready)
	}
	// It is the picked one whose call it is.
	w := one(t, append(helper(20, 6), retype(1, 30, api.CapEndpoint, 0, 1))...)
	w.does(t, recv(30))
	w.waits(t, 0, false, 1)
	w.runs(t, 0, 0)
	// One of the same priority is not picked.
	w = one(t, append(helper(20, 5), retype(1, 30, api.CapEndpoint, 0, 1))...)
	w.does(t, recv(30))
	w.waits(t, 0, false, 0)
	w.runs(t, 0, 1)
}

func TestP182Label(t *testing.T) {
	w := one(t)
	for _, ask := range append(slices.DeleteFunc(slices.Clone(far), func(n int) bool { return n >= 0 && n < api.Asks }), -1, api.Asks, api.Asks+1) {
		w.refuses(t, api.ErrKernelLabel, api.Call{Ask: ask}, api.Call{Ask: ask, At: -1}, api.Call{Ask: ask, At: 63}, api.Call{Ask: ask, At: 1, With: 20, A: api.CapFrame, C: 1})
	}
}

func TestP182Yield(t *testing.T) {
	w := one(t, helper(20, 5)...)
	w.tick(t, 0, true)
	if x, _ := w.k.Thread(0); x.Left != 4 {
		t.Fatal(x)
	}
	w.told(t, yield(), done)
	w.runs(t, 0, 1)
	if x, _ := w.k.Thread(0); x.Left != 5 || x.State != api.Ready {
		t.Fatal(x)
	}
	// Which slots it names makes no difference.
	w.told(t, api.Call{Ask: api.AskYield, At: -1, With: 64, A: -1, B: -1, C: -1}, done)
	w.runs(t, 0, 0)
	w.told(t, api.Call{Ask: api.AskYield, At: 63, With: 63}, done)
	w.runs(t, 0, 1)
	// Alone it goes on; one of a lesser priority does not come.
	w = one(t, helper(20, 4)...)
	w.told(t, yield(), done)
	w.runs(t, 0, 0)
	// At its own core alone.
	w = two(t)
	w.core = 1
	w.told(t, yield(), done)
	w.runs(t, 0, 0)
	w.runs(t, 1, 1)
}

// every has a capability of each kind but CapUntyped in slot 20 and its kind, untyped memory in slot 1, and nothing in slots 10 to 20, 40 to 63.
func every(t *testing.T) *pair {
	t.Helper()
	w := one(t)
	for _, kind := range []int{api.CapEndpoint, api.CapNotify, api.CapFrame, api.CapTable, api.CapSpace, api.CapThread, api.CapNode} {
		w.does(t, retype(1, 20+kind, kind, 1, 1))
	}
	w.does(t, move(4, 20+api.CapIrq))
	return w
}

// kindAt is the slot of every's that has a capability of a kind.
func kindAt(kind int) int {
	if kind == api.CapUntyped {
		return 1
	}
	return 20 + kind
}

// right is a call of each kind that is done at every.
func right(ask int) api.Call {
	switch ask {
	case api.AskRetype:
		return retype(1, 40, api.CapEndpoint, 0, 1)
	case api.AskMint:
		return mint(kindAt(api.CapEndpoint), 40, 7, 0)
	case api.AskMove:
		return move(kindAt(api.CapEndpoint), 40)
	case api.AskDelete:
		return remove(kindAt(api.CapEndpoint))
	case api.AskRevoke:
		return revoke(kindAt(api.CapEndpoint))
	case api.AskResume:
		return resume(kindAt(api.CapThread))
	case api.AskSuspend:
		return suspend(2)
	case api.AskPrio:
		return prio(kindAt(api.CapThread), 1)
	case api.AskSend:
		return trySend(kindAt(api.CapEndpoint), 1, 1)
	case api.AskRecv:
		return tryRecv(kindAt(api.CapEndpoint))
	case api.AskSignal:
		return signal(kindAt(api.CapNotify))
	case api.AskWait:
		return tryWait(kindAt(api.CapNotify))
	case api.AskTable:
		return table(kindAt(api.CapTable), 3, 0)
	case api.AskMap:
		return lay(kindAt(api.CapFrame), 3, 64, 7)
	case api.AskUnmap:
		return unmap(3, 65)
	case api.AskBind:
		return bind(kindAt(api.CapIrq), kindAt(api.CapNotify))
	case api.AskAck:
		return ack(kindAt(api.CapIrq))
	}
	return yield()
}

// mapped is every with page 65 mapped, so that each right call is done.
func mapped(t *testing.T) *pair {
	t.Helper()
	w := every(t)
	w.does(t, retype(1, 19, api.CapTable, 0, 1), table(19, 3, 1), lay(kindAt(api.CapFrame), 3, 65, 7))
	return w
}

func TestP182NoSlotNumber(t *testing.T) {
	w := mapped(t)
	for ask := range api.AskYield {
		c := right(ask)
		w.copied().does(t, c)
		for _, n := range noSlots {
			c.At = n
			w.refuses(t, api.ErrKernelCap, c)
		}
		// Free ones.
		for _, n := range []int{10, 11, 40, 62, 63} {
			c.At = n
			w.refuses(t, api.ErrKernelCap, c)
		}
	}
	for _, ask := range []int{api.AskTable, api.AskMap, api.AskBind, api.AskMint, api.AskMove} {
		c := right(ask)
		for _, n := range noSlots {
			c.With = n
			w.refuses(t, api.ErrKernelCap, c)
		}
	}
	for _, ask := range []int{api.AskTable, api.AskMap, api.AskBind} {
		c := right(ask)
		for _, n := range []int{10, 40, 62, 63} {
			c.With = n
			w.refuses(t, api.ErrKernelCap, c)
		}
	}
}

// TestP182Kinds: a capability of another kind than told is refused, of each kind, of each call.
func TestP182Kinds(t *testing.T) {
	w := mapped(t)
	ofAny := []int{api.AskMint, api.AskMove, api.AskDelete, api.AskRevoke}
	for ask := range api.AskYield {
		c := right(ask)
		for kind := api.CapUntyped; kind < api.CapKinds; kind++ {
			c.At = kindAt(kind)
			own := kinds[ask][0] == kind
			if slices.Contains(ofAny, ask) {
				own = ask != api.AskMint || kind != api.CapUntyped
			}
			if own {
				if told := w.k.Copy().Do(0, c); told.E == api.ErrKernelCap {
					t.Fatal(c, told)
				}
				continue
			}
			w.refuses(t, api.ErrKernelCap, c)
		}
	}
	for _, ask := range []int{api.AskTable, api.AskMap, api.AskBind} {
		c := right(ask)
		for kind := api.CapUntyped; kind < api.CapKinds; kind++ {
			if c.With = kindAt(kind); kind != kinds[ask][2] {
				w.refuses(t, api.ErrKernelCap, c)
			} else if told := w.k.Copy().Do(0, c); told.E == api.ErrKernelCap {
				t.Fatal(c, told)
			}
		}
	}
}

// TestP182Rights: which rights a call needs, and that it needs no others.
func TestP182Rights(t *testing.T) {
	w := every(t)
	for rights := range 8 {
		c := w.copied()
		c.does(t, mint(kindAt(api.CapEndpoint), 40, rights, 0), mint(kindAt(api.CapNotify), 41, rights, 0), mint(kindAt(api.CapFrame), 42, rights, 0))
		writes, reads := []api.Call{trySend(40, 1, 1), signal(41)}, []api.Call{tryRecv(40), tryWait(41)}
		if rights&api.Write != 0 {
			c.does(t, writes...)
		} else {
			c.refuses(t, api.ErrKernelCap, writes...)
			c.refuses(t, api.ErrKernelCap, send(40, 1, 1))
		}
		if rights&api.Read != 0 {
			c.does(t, reads...)
		} else {
			c.refuses(t, api.ErrKernelCap, reads...)
			c.refuses(t, api.ErrKernelCap, recv(40), wait(41))
		}
		// All else goes without any.
		c.does(t, table(kindAt(api.CapTable), 3, 0), lay(42, 3, 1, 7), bind(kindAt(api.CapIrq), 41))
		c.pages(t, 0, laid(1, 0, rights))
		c.does(t, mint(40, 43, 7, 0), move(40, 44), revoke(44), remove(44), remove(41), remove(42))
	}
}

// ---- AskRetype

func TestRetypeKinds(t *testing.T) {
	sizes := map[int]uint64{api.CapThread: 32, api.CapEndpoint: 4, api.CapNotify: 4, api.CapFrame: 64, api.CapTable: 64, api.CapSpace: 64}
	for kind, size := range sizes {
		for _, bits := range []int{0, 1, -1, math.MinInt, math.MaxInt} {
			w := one(t)
			first := 0
			if kind == api.CapThread || kind == api.CapSpace {
				first = 1
			}
			w.told(t, retype(1, 20, kind, bits, 3), done)
			for i := range 3 {
				w.has(t, 20+i, whole(kind, first+i))
			}
			w.tree(t, 0, 1, 22, 21, 20, 2, 3, 4)
			w.used(t, 0, 3*size)
			w.told(t, retype(1, 30, kind, bits, 1), done)
			w.has(t, 30, whole(kind, first+3))
			w.used(t, 0, 4*size)
		}
	}
}

func TestRetypeThreads(t *testing.T) {
	w := two(t)
	w.does(t, retype(1, 20, api.CapThread, 0, 2))
	w.core = 1
	w.does(t, retype(1, 22, api.CapThread, 0, 1))
	for id, core := range map[int]int{2: 0, 3: 0, 4: 1} {
		if x, e := w.k.Thread(id); x != (api.Thread{State: api.Idle, Core: core, Left: 5}) || e != api.OK {
			t.Error(id, x, e)
		}
	}
}

func TestRetypeUntyped(t *testing.T) {
	w := one(t)
	w.does(t, retype(1, 20, api.CapEndpoint, 0, 1))
	w.told(t, retype(1, 21, api.CapUntyped, 8, 2), done)
	w.has(t, 21, whole(api.CapUntyped, 1))
	w.has(t, 22, whole(api.CapUntyped, 2))
	for n, want := range map[int]api.Untyped{0: {Bits: 20, Used: 768}, 1: {Base: 256, Bits: 8}, 2: {Base: 512, Bits: 8}} {
		if u, is := w.k.Untyped(n); u != want || !is {
			t.Error(n, u, is)
		}
	}
	// Of memory within memory its own alone is used.
	w.told(t, retype(22, 30, api.CapUntyped, 6, 3), done)
	w.used(t, 0, 768)
	w.used(t, 1, 0)
	w.used(t, 2, 192)
	if u, is := w.k.Untyped(5); u != (api.Untyped{Base: 640, Bits: 6}) || !is {
		t.Error(u, is)
	}
	w.tree(t, 0, 1, 22, 32, 31, 30, 21, 20, 2, 3, 4)
	w.told(t, retype(22, 33, api.CapFrame, 0, 1), done)
	w.told(t, retype(22, 34, api.CapEndpoint, 0, 1), fails(api.ErrUntypedRoom))
}

func TestRetypeNode(t *testing.T) {
	w := one(t)
	w.told(t, retype(1, 20, api.CapNode, 8, 2), done)
	w.has(t, 20, whole(api.CapNode, 1))
	w.has(t, 21, whole(api.CapNode, 2))
	w.used(t, 0, 2048)
	w.told(t, retype(1, 22, api.CapNode, 1, 1), done)
	w.used(t, 0, 2056)
	// Its slots are none that a number names.
	w.refuses(t, api.ErrKernelCap, move(22, 64), move(22, 65))
}

// TestRetypeErrors: in the order in which the promise names them.
func TestRetypeErrors(t *testing.T) {
	w := fresh(t, api.Booted{Cores: 1, Bits: 8, Lines: 1, Prios: []int{5}})
	w.does(t, retype(1, 20, api.CapEndpoint, 0, 1))
	for _, with := range []int{30, 20, 63, -1, 64, math.MinInt, math.MaxInt} {
		for _, kind := range []int{math.MinInt, -1, api.CapNone, api.CapIrq, api.CapKinds, math.MaxInt} {
			w.refuses(t, api.ErrUntypedKind, retype(1, with, kind, 0, 1), retype(1, with, kind, 0, 0), retype(1, with, kind, -1, 65))
		}
		for _, bits := range []int{math.MinInt, -1, 0, 3, 21, math.MaxInt} {
			w.refuses(t, api.ErrArg, retype(1, with, api.CapUntyped, bits, 1))
		}
		for _, bits := range []int{math.MinInt, -1, 0, 9, math.MaxInt} {
			w.refuses(t, api.ErrArg, retype(1, with, api.CapNode, bits, 1))
		}
		for _, many := range []int{math.MinInt, -1, 0, 65, 66, math.MaxInt} {
			w.refuses(t, api.ErrArg, retype(1, with, api.CapEndpoint, 0, many), retype(1, with, api.CapFrame, 0, many))
		}
		w.refuses(t, api.ErrUntypedRoom, retype(1, with, api.CapFrame, 0, 4), retype(1, with, api.CapUntyped, 8, 1), retype(1, with, api.CapEndpoint, 0, 64))
	}
	for _, n := range noSlots {
		w.refuses(t, api.ErrKernelCap, retype(1, n, api.CapEndpoint, 0, 1), retype(1, n, api.CapEndpoint, 0, 2))
	}
	// The last ones are no slots, though the first one is not free.
	w.does(t, move(20, 63))
	w.refuses(t, api.ErrKernelCap, retype(1, 63, api.CapEndpoint, 0, 2), retype(1, 62, api.CapEndpoint, 0, 3), retype(1, 2, api.CapEndpoint, 0, 63))
	w.refuses(t, api.ErrSlotsFull, retype(1, 63, api.CapEndpoint, 0, 1), retype(1, 62, api.CapEndpoint, 0, 2), retype(1, 1, api.CapEndpoint, 0, 1), retype(1, 0, api.CapEndpoint, 0, 1))
	w.does(t, move(63, 40))
	w.refuses(t, api.ErrSlotsFull, retype(1, 40, api.CapEndpoint, 0, 3), retype(1, 39, api.CapEndpoint, 0, 3), retype(1, 38, api.CapEndpoint, 0, 3))
	w.told(t, retype(1, 37, api.CapEndpoint, 0, 3), done)
	w.told(t, retype(1, 41, api.CapEndpoint, 0, 23), done)
	w.has(t, 63, whole(api.CapEndpoint, 26))
}

// TestRetypeAll: from the slot behind the first ones up to the last one.
func TestRetypeAll(t *testing.T) {
	w := one(t, remove(3), move(4, 3))
	w.refuses(t, api.ErrKernelCap, retype(1, 4, api.CapEndpoint, 0, 61))
	w.told(t, retype(1, 4, api.CapEndpoint, 0, 60), done)
	if n := len(w.k.Held()); n != 64 {
		t.Fatal(n)
	}
	w.refuses(t, api.ErrSlotsFull, mint(63, 62, 7, 0), move(63, 4), retype(1, 63, api.CapEndpoint, 0, 1))
	w.told(t, revoke(1), tells(60))
}

// TestRetypeMany: 64 nodes and 64 threads there may be, and no object that went makes room for another one.
func TestRetypeMany(t *testing.T) {
	for _, x := range []struct{ kind, there int }{{api.CapNode, 1}, {api.CapThread, 2}} {
		w := two(t)
		w.does(t, retype(1, 10, x.kind, 1, 30), revoke(1), retype(1, 10, x.kind, 1, 20))
		left := 64 - x.there - 50
		w.refuses(t, api.ErrBig, retype(1, 40, x.kind, 1, left+1), retype(1, 40, x.kind, 1, 24))
		c := w.copied()
		c.told(t, retype(1, 40, x.kind, 1, left), done)
		c.has(t, 40+left-1, whole(x.kind, 63))
		c.refuses(t, api.ErrBig, retype(1, 60, x.kind, 1, 1), retype(1, 60, x.kind, 1, 4))
		c.does(t, revoke(1))
		c.refuses(t, api.ErrBig, retype(1, 40, x.kind, 1, 1), retype(1, 7, x.kind, 1, 57))
		// Of other kinds there may be more.
		for _, kind := range []int{api.CapEndpoint, api.CapNotify, api.CapFrame, api.CapTable, api.CapSpace, api.CapUntyped} {
			c.does(t, retype(1, 10, kind, 4, 50), revoke(1), retype(1, 10, kind, 4, 50), revoke(1))
		}
		// It comes last of all errors.
		w.refuses(t, api.ErrSlotsFull, retype(1, 29, x.kind, 1, left+1))
		w.refuses(t, api.ErrKernelCap, retype(1, 63, x.kind, 1, left+1))
		w.refuses(t, api.ErrArg, retype(1, 40, x.kind, 1, 65))
		// One by one, up to the last one.
		for range left {
			w.does(t, retype(1, 40, x.kind, 1, 1), remove(40))
		}
		w.refuses(t, api.ErrBig, retype(1, 40, x.kind, 1, 1))
	}
	small := fresh(t, api.Booted{Cores: 1, Bits: 8, Prios: []int{5}})
	small.refuses(t, api.ErrUntypedRoom, retype(1, 10, api.CapThread, 0, 64))
}

// ---- AskMint, AskMove

func TestMint(t *testing.T) {
	w := every(t)
	e, n, f := kindAt(api.CapEndpoint), kindAt(api.CapNotify), kindAt(api.CapFrame)
	w.told(t, mint(e, 40, api.Read|api.Grant, 5), done)
	w.has(t, 40, api.Cap{Kind: api.CapEndpoint, Rights: api.Read | api.Grant, Badge: 5})
	w.has(t, e, whole(api.CapEndpoint, 0))
	w.told(t, mint(40, 41, api.Read|api.Write, 0), done)
	w.has(t, 41, api.Cap{Kind: api.CapEndpoint, Rights: api.Read, Badge: 5})
	// Any number is a badge, as a word.
	w.told(t, mint(n, 42, api.All, -1), done)
	w.has(t, 42, api.Cap{Kind: api.CapNotify, Rights: api.All, Badge: 1<<64 - 1})
	w.told(t, mint(n, 43, 0, math.MinInt), done)
	w.has(t, 43, api.Cap{Kind: api.CapNotify, Badge: 1 << 63})
	w.told(t, mint(f, 44, api.Write, 0), done)
	w.has(t, 44, api.Cap{Kind: api.CapFrame, Rights: api.Write})
	// Those that are not limited have all rights.
	at := 45
	for _, kind := range []int{api.CapNode, api.CapThread, api.CapTable, api.CapSpace, api.CapIrq} {
		w.told(t, mint(kindAt(kind), at, 0, 0), done)
		c := w.p.caps[kindAt(kind)]
		w.has(t, at, whole(kind, c.Obj))
		at++
	}
	// What is minted came of what it was minted of, and is the newest of these.
	w.does(t, mint(40, 60, api.Read, 0), mint(60, 61, api.Read, 0))
	w.told(t, revoke(40), tells(3))
	w.isFree(t, 41, 60, 61)
	w.told(t, revoke(e), tells(1))
	w.isFree(t, 40)
}

func TestMintTree(t *testing.T) {
	w := one(t, retype(1, 10, api.CapEndpoint, 0, 1), mint(10, 20, 7, 1), mint(10, 21, 7, 2), mint(20, 22, 7, 0), mint(3, 30, 7, 0))
	w.tree(t, 0, 1, 10, 21, 20, 22, 2, 3, 30, 4)
}

// TestMintErrors: in the order in which the promise names them.
func TestMintErrors(t *testing.T) {
	w := every(t)
	e, f := kindAt(api.CapEndpoint), kindAt(api.CapFrame)
	w.does(t, mint(e, 40, api.All, 5))
	wrong := []int{math.MinInt, -1, 8, 9, 1 << 32, math.MaxInt}
	for _, with := range append(slices.Clone(noSlots), 41, 40, 1, 0) {
		w.refuses(t, api.ErrKernelCap, mint(1, with, 7, 0), mint(1, with, 8, 0), mint(41, with, 7, 0))
	}
	for _, rights := range append(slices.Clone(wrong), 7) {
		for _, with := range noSlots {
			w.refuses(t, api.ErrKernelCap, mint(e, with, rights, 0), mint(40, with, rights, 6))
		}
		for _, with := range []int{0, 1, 40, e, f} {
			w.refuses(t, api.ErrSlotsFull, mint(e, with, rights, 0), mint(40, with, rights, 6))
		}
	}
	for _, rights := range wrong {
		w.refuses(t, api.ErrArg, mint(e, 41, rights, 0), mint(40, 41, rights, 6), mint(f, 41, rights, 1))
	}
	// A badge it has already, or is not for.
	w.refuses(t, api.ErrCapsRight, mint(40, 41, 7, 6), mint(40, 41, 7, 5), mint(40, 41, 0, -1))
	for _, kind := range []int{api.CapNode, api.CapThread, api.CapFrame, api.CapTable, api.CapSpace, api.CapIrq} {
		w.refuses(t, api.ErrCapsRight, mint(kindAt(kind), 41, 7, 1), mint(kindAt(kind), 41, 0, math.MinInt))
	}
}

func TestMove(t *testing.T) {
	w := one(t, retype(1, 10, api.CapEndpoint, 0, 3), mint(11, 20, api.Read, 9), mint(20, 21, api.Read, 0))
	w.tree(t, 0, 1, 12, 11, 20, 21, 10, 2, 3, 4)
	w.told(t, move(11, 63), done)
	w.tree(t, 0, 1, 12, 63, 20, 21, 10, 2, 3, 4)
	w.isFree(t, 11)
	w.has(t, 63, whole(api.CapEndpoint, 1))
	w.told(t, move(20, 11), done)
	w.has(t, 11, api.Cap{Kind: api.CapEndpoint, Obj: 1, Rights: api.Read, Badge: 9})
	w.tree(t, 0, 1, 12, 63, 11, 21, 10, 2, 3, 4)
	// Roots too, of any kind; what came of them still does.
	for i, n := range []int{1, 2, 3, 4} {
		w.told(t, move(n, 40+i), done)
	}
	w.tree(t, 0, 40, 12, 63, 11, 21, 10, 41, 42, 43)
	w.told(t, revoke(40), tells(5))
	w.does(t, retype(40, 1, api.CapFrame, 0, 4))
}

func TestMoveErrors(t *testing.T) {
	w := every(t)
	for kind := api.CapUntyped; kind < api.CapKinds; kind++ {
		n := kindAt(kind)
		for _, with := range noSlots {
			w.refuses(t, api.ErrKernelCap, move(n, with))
		}
		// Itself is not free.
		w.refuses(t, api.ErrSlotsFull, move(n, n), move(n, 0), move(n, 1), move(n, 2))
		c := w.copied()
		c.told(t, move(n, 63), done)
		c.refuses(t, api.ErrKernelCap, move(n, 62))
	}
}

// TestMoveRoot: node 0's own capability stands where it is put; slots are named all the same.
func TestMoveRoot(t *testing.T) {
	w := one(t, retype(1, 10, api.CapEndpoint, 0, 1), move(0, 20))
	w.isFree(t, 0)
	w.has(t, 20, whole(api.CapNode, 0))
	w.refuses(t, api.ErrKernelCap, remove(0), revoke(0))
	w.told(t, remove(20), done)
	w.told(t, mint(10, 0, api.Read, 3), done)
	w.has(t, 0, api.Cap{Kind: api.CapEndpoint, Rights: api.Read, Badge: 3})
	// Slot 0 is deleted by no AskDelete, whatever is in it, and by AskRevoke as all others are.
	w.refuses(t, api.ErrKernelCap, remove(0))
	w.told(t, revoke(1), tells(2))
	w.isFree(t, 0, 10)
}

// ---- AskDelete, AskRevoke

func TestDelete(t *testing.T) {
	w := one(t, retype(1, 10, api.CapEndpoint, 0, 1), mint(10, 11, 7, 1), mint(11, 12, 7, 0), mint(11, 13, 7, 0), mint(10, 14, 7, 2))
	w.tree(t, 0, 1, 10, 14, 11, 13, 12, 2, 3, 4)
	w.refuses(t, api.ErrKernelCap, remove(0))
	// What came of it came of what it came of, from then on.
	w.told(t, remove(11), done)
	w.isFree(t, 11)
	w.tree(t, 0, 1, 10, 14, 13, 12, 2, 3, 4)
	w.copied().told(t, revoke(10), tells(3))
	w.told(t, remove(10), done)
	w.copied().told(t, revoke(1), tells(3))
	w.used(t, 0, 4)
	w.told(t, remove(1), done)
	w.tree(t, 0, 14, 13, 12, 2, 3, 4)
	for _, n := range []int{14, 13, 12} {
		w.told(t, revoke(n), done)
		w.told(t, remove(n), done)
		w.refuses(t, api.ErrKernelCap, remove(n))
	}
	w.refuses(t, api.ErrKernelCap, retype(1, 20, api.CapEndpoint, 0, 1))
}

// TestDeleteThread: it is stopped with the last capability to it, in whichever state it is.
func TestDeleteThread(t *testing.T) {
	made := []api.Call{retype(1, 10, api.CapThread, 0, 1), prio(10, 9), retype(1, 30, api.CapEndpoint, 0, 2), retype(1, 32, api.CapNotify, 0, 2)}
	states := map[string][]api.Call{
		"idle":      nil,
		"ready":     {prio(10, 3), resume(10)},
		"sends":     {resume(10), send(31, 1, 2)},
		"receives":  {resume(10), recv(31)},
		"waits":     {resume(10), wait(33)},
		"suspended": {resume(10), recv(31), suspend(10)},
	}
	for what, calls := range states {
		w := one(t, append(slices.Clone(made), calls...)...)
		was, _ := w.k.Thread(1)
		w.does(t, mint(10, 11, 7, 0))
		w.told(t, remove(10), done)
		w.state(t, 1, was.State)
		w.told(t, remove(11), done)
		w.state(t, 1, api.Idle)
		w.waits(t, 0, false)
		w.waits(t, 1, false)
		// Nobody meets it any more, and nobody gets it.
		c := w.copied()
		c.told(t, trySend(31, 1, 2), done)
		c.told(t, tryRecv(31), done)
		c.told(t, signal(33), done)
		c.word(t, 1, 0, true)
		if x, _ := w.k.Thread(1); x.Regs != was.Regs || x.Prio != was.Prio {
			t.Error(what, x)
		}
	}
	// One that runs, at its own core and at another one.
	w := two(t, retype(1, 30, api.CapEndpoint, 0, 1))
	w.told(t, remove(3), done)
	w.state(t, 1, api.Idle)
	if _, is := w.k.Runs(1); is {
		t.Error("thread 1 runs")
	}
	w.told(t, remove(2), done)
	w.state(t, 0, api.Idle)
	w.refuses(t, api.ErrKernelState, yield())
	// Another thread's capability is none to it.
	w = one(t, retype(1, 10, api.CapThread, 0, 2), resume(10), resume(11))
	w.told(t, remove(10), done)
	w.state(t, 1, api.Idle)
	w.state(t, 2, api.Ready)
	// Nor is that of an object of another kind, with the same number.
	w = one(t, retype(1, 9, api.CapFrame, 0, 3), retype(1, 12, api.CapThread, 0, 1), resume(12))
	w.told(t, remove(12), done)
	w.state(t, 1, api.Idle)
}

// spaces has frames 0 to 2 in slots 10 to 12, tables 0 to 3 in 13 to 16, spaces 1 and 2 in 17 and 18; space 0 has tables 0 at 0, 1 at 63, space 1 table 2 at 1, space 2 table 3 at 0.
func spaces(t *testing.T) *pair {
	t.Helper()
	return one(t, retype(1, 10, api.CapFrame, 0, 3), retype(1, 13, api.CapTable, 0, 4), retype(1, 17, api.CapSpace, 0, 2),
		table(13, 3, 0), table(14, 3, 63), table(15, 17, 1), table(16, 18, 0))
}

func TestDeleteFrame(t *testing.T) {
	w := spaces(t)
	w.does(t, mint(11, 21, api.Read, 0),
		lay(11, 18, 5, 7), lay(11, 18, 0, 6), lay(11, 17, 127, 3), lay(21, 17, 64, 7), lay(11, 3, 4095, 7), lay(11, 3, 63, 1), lay(21, 3, 0, 7),
		lay(10, 3, 1, 7), lay(12, 17, 65, 7), lay(12, 18, 1, 7))
	w.told(t, remove(11), done)
	w.told(t, remove(21), forgets(
		away(0, 0, 1, 1), away(0, 63, 1, 1), away(0, 4095, 1, 7),
		away(1, 64, 1, 1), away(1, 127, 1, 3),
		away(2, 0, 1, 6), away(2, 5, 1, 7)))
	w.pages(t, 0, laid(1, 0, 7))
	w.pages(t, 1, laid(65, 2, 7))
	w.pages(t, 2, laid(1, 2, 7))
	w.told(t, remove(12), forgets(away(1, 65, 2, 7), away(2, 1, 2, 7)))
	w.told(t, remove(10), forgets(away(0, 1, 0, 7)))
	// One that is mapped nowhere any more.
	w = spaces(t)
	w.does(t, lay(10, 3, 5, 7), unmap(3, 5))
	w.told(t, remove(10), done)
}

func TestDeleteTable(t *testing.T) {
	w := spaces(t)
	w.does(t, lay(10, 3, 7, 7), lay(11, 3, 0, 1), lay(10, 3, 63, 2), lay(12, 3, 4095, 3), lay(12, 3, 4032, 4), lay(10, 17, 64, 5), lay(11, 18, 7, 6), mint(14, 24, 7, 0))
	w.told(t, remove(13), forgets(away(0, 0, 1, 1), away(0, 7, 0, 7), away(0, 63, 0, 2)))
	w.pages(t, 0, laid(4032, 2, 4), laid(4095, 2, 3))
	w.refuses(t, api.ErrTablesNone, lay(10, 3, 7, 7), unmap(3, 7))
	// Its place is free for another one.
	w.does(t, retype(1, 30, api.CapTable, 0, 1), table(30, 3, 0), lay(10, 3, 7, 7))
	w.told(t, remove(24), done)
	w.told(t, remove(14), forgets(away(0, 4032, 2, 4), away(0, 4095, 2, 3)))
	w.told(t, remove(15), forgets(away(1, 64, 0, 5)))
	w.told(t, remove(16), forgets(away(2, 7, 1, 6)))
	w.told(t, remove(30), forgets(away(0, 7, 0, 7)))
	// One without pages, and one that no space has.
	w = spaces(t)
	w.told(t, remove(13), done)
	w.refuses(t, api.ErrTablesNone, lay(10, 3, 7, 7))
	w.does(t, retype(1, 30, api.CapTable, 0, 1))
	w.told(t, remove(30), done)
}

// TestDeleteTableOfSpaces: a table that two spaces have goes out of both.
func TestDeleteTableOfSpaces(t *testing.T) {
	w := spaces(t)
	w.does(t, table(13, 18, 5), table(13, 17, 9), lay(10, 18, 321, 7), lay(10, 17, 577, 5), lay(11, 17, 576, 5), lay(11, 3, 1, 4), lay(12, 17, 64, 1))
	w.told(t, remove(13), forgets(away(0, 1, 1, 4), away(1, 576, 1, 5), away(1, 577, 0, 5), away(2, 321, 0, 7)))
	w.pages(t, 0)
	w.pages(t, 1, laid(64, 2, 1))
	w.pages(t, 2)
	w.refuses(t, api.ErrTablesNone, lay(10, 18, 321, 7), lay(10, 17, 577, 5), lay(11, 3, 1, 4))
}

// TestDeleteOthers: nothing else goes with the last capability to an object of another kind.
func TestDeleteOthers(t *testing.T) {
	w := spaces(t)
	w.does(t, lay(10, 17, 64, 5), retype(1, 20, api.CapEndpoint, 0, 1), retype(1, 21, api.CapNotify, 0, 1), retype(1, 22, api.CapUntyped, 6, 1), retype(22, 23, api.CapFrame, 0, 1))
	w.does(t, bind(4, 21), signal(21))
	w.told(t, remove(17), done)
	w.pages(t, 1, laid(64, 0, 5))
	w.told(t, remove(22), done)
	w.used(t, 1, 64)
	w.told(t, remove(21), done)
	w.word(t, 0, 0, true)
	w.irq(t, 0, -1, api.OK)
	w.told(t, remove(4), done)
	w.irq(t, 0, -1, api.OK)
	w.does(t, append(helper(30, 9), recv(20))...)
	w.waits(t, 0, false, 1)
	w.told(t, remove(20), done)
	w.waits(t, 0, false, 1)
	w.state(t, 1, api.Blocked)
	w.told(t, remove(10), forgets(away(1, 64, 0, 5)))
}

func TestRevoke(t *testing.T) {
	w := one(t, retype(1, 10, api.CapEndpoint, 0, 1), mint(10, 11, 7, 1), mint(11, 12, 7, 0), mint(10, 13, 7, 2), retype(1, 14, api.CapNotify, 0, 1))
	c := w.copied()
	c.told(t, revoke(11), tells(1))
	c.has(t, 11, api.Cap{Kind: api.CapEndpoint, Rights: 7, Badge: 1})
	c.tree(t, 0, 1, 14, 10, 13, 11, 2, 3, 4)
	c.told(t, revoke(10), tells(2))
	c.used(t, 0, 8)
	c.told(t, revoke(1), tells(2))
	c.used(t, 0, 0)
	c.told(t, revoke(1), done)
	w.told(t, revoke(1), tells(5))
	w.tree(t, 0, 1, 2, 3, 4)
	w.used(t, 0, 0)
	// What was its memory becomes objects again, of new numbers.
	w.does(t, retype(1, 10, api.CapEndpoint, 0, 1))
	w.has(t, 10, whole(api.CapEndpoint, 1))
	w.used(t, 0, 4)
}

// TestRevokeMemory: of memory within memory its own use is gone alone.
func TestRevokeMemory(t *testing.T) {
	w := one(t, retype(1, 10, api.CapUntyped, 8, 2), retype(10, 20, api.CapFrame, 0, 2), retype(11, 30, api.CapFrame, 0, 1))
	w.told(t, revoke(10), tells(2))
	w.used(t, 0, 512)
	w.used(t, 1, 0)
	w.used(t, 2, 64)
	w.told(t, revoke(1), tells(3))
	w.used(t, 0, 0)
	w.used(t, 2, 64)
	// Where nothing is under it memory is used no more, too: all of it may be, since what is deleted is not given back.
	w.does(t, retype(1, 10, api.CapUntyped, 8, 1), retype(10, 20, api.CapFrame, 0, 4), remove(20), remove(21), remove(22), remove(23))
	w.refuses(t, api.ErrUntypedRoom, retype(10, 20, api.CapEndpoint, 0, 1))
	w.told(t, revoke(10), done)
	w.told(t, retype(10, 20, api.CapFrame, 0, 4), done)
	// A capability of another kind resets none.
	w.does(t, mint(20, 30, 7, 0))
	w.told(t, revoke(20), tells(1))
	w.told(t, revoke(0), done)
	w.used(t, 3, 256)
}

// TestRevokeForget: the last one of the tree goes first, and pages are told as they go.
func TestRevokeForget(t *testing.T) {
	w := spaces(t)
	w.does(t, mint(11, 21, api.Read, 0), lay(10, 3, 3, 7), lay(21, 3, 2, 7), lay(11, 18, 2, 6), lay(12, 17, 64, 5), lay(12, 3, 4032, 4))
	w.tree(t, 0, 1, 18, 17, 16, 15, 14, 13, 12, 11, 21, 10, 2, 3, 4)
	c := w.copied()
	c.told(t, revoke(11), tells(1))
	c.pages(t, 0, laid(2, 1, 1), laid(3, 0, 7), laid(4032, 2, 4))
	told := forgets(away(0, 3, 0, 7), away(0, 2, 1, 1), away(2, 2, 1, 6), away(0, 4032, 2, 4), away(1, 64, 2, 5))
	told.W = 10
	w.told(t, revoke(1), told)
	// Tables ahead of frames.
	w = one(t, retype(1, 10, api.CapTable, 0, 2), retype(1, 12, api.CapFrame, 0, 2), table(10, 3, 0), table(11, 3, 1), lay(12, 3, 64, 7), lay(13, 3, 63, 6), lay(12, 3, 1, 5))
	told = forgets(away(0, 1, 0, 5), away(0, 63, 1, 6), away(0, 64, 0, 7))
	told.W = 4
	w.told(t, revoke(1), told)
}

// TestRevokeThreads: who runs may be among those that go.
func TestRevokeThreads(t *testing.T) {
	w := one(t, append(helper(10, 9), retype(1, 20, api.CapEndpoint, 0, 1))...)
	w.runs(t, 0, 1)
	w.does(t, helper(11, 9)...)
	w.does(t, recv(20))
	w.runs(t, 0, 2)
	w.told(t, revoke(1), tells(3))
	w.state(t, 1, api.Idle)
	w.state(t, 2, api.Idle)
	w.waits(t, 0, false)
	if _, is := w.k.Runs(0); is {
		t.Error("somebody runs")
	}
	w.does(t, yield())
	w.runs(t, 0, 0)
}

// ---- AskResume, AskSuspend, AskPrio

func TestResume(t *testing.T) {
	w := one(t, retype(1, 10, api.CapThread, 0, 1), prio(10, 9), retype(1, 30, api.CapEndpoint, 0, 2), retype(1, 32, api.CapNotify, 0, 2))
	w.refuses(t, api.ErrThreadsState, resume(2))
	w.told(t, resume(10), wakes(1))
	w.state(t, 1, api.Ready)
	w.told(t, resume(10), fails(api.ErrThreadsState))
	w.runs(t, 0, 1)
	w.refuses(t, api.ErrThreadsState, resume(10), resume(2))
	// One that waits, wherever it does, waits there no more.
	for _, c := range []api.Call{send(30, 1, 2), send(31, 1, 2), recv(30), recv(31), wait(32), wait(33)} {
		w.told(t, c, done)
		w.runs(t, 0, 0)
		w.state(t, 1, api.Blocked)
		w.told(t, resume(10), wakes(1))
		w.state(t, 1, api.Ready)
		w.waits(t, 0, false)
		w.waits(t, 1, false)
		x := w.copied()
		x.does(t, prio(10, 1), signal(32), signal(33), trySend(30, 1, 1), trySend(31, 1, 1), tryRecv(30), tryRecv(31))
		x.words(t, 1)
		x.word(t, 0, 0, true)
		x.word(t, 1, 0, true)
	}
	w.words(t, 1)
}

// TestResumeLeavesOthers: who else waits still does, in order.
func TestResumeLeavesOthers(t *testing.T) {
	w := one(t, retype(1, 30, api.CapEndpoint, 0, 1), retype(1, 31, api.CapNotify, 0, 1), prio(2, 1))
	for at := 10; at < 16; at++ {
		w.does(t, helper(at, 20-at)...)
	}
	for range 3 {
		w.does(t, recv(30))
	}
	for range 3 {
		w.does(t, wait(31))
	}
	w.waits(t, 0, false, 1, 2, 3)
	w.told(t, resume(11), wakes(2))
	w.waits(t, 0, false, 1, 3)
	w.told(t, suspend(14), done)
	w.told(t, trySend(30, 1, 1), wakes(1))
	w.told(t, signal(31), wakes(4))
	w.told(t, signal(31), wakes(6))
}

func TestSuspend(t *testing.T) {
	w := one(t, retype(1, 10, api.CapThread, 0, 1), prio(10, 9), retype(1, 30, api.CapEndpoint, 0, 2), retype(1, 32, api.CapNotify, 0, 2))
	w.refuses(t, api.ErrThreadsState, suspend(10))
	w.does(t, resume(10))
	w.told(t, suspend(10), done) // its own
	w.state(t, 1, api.Idle)
	if _, is := w.k.Runs(0); is {
		t.Fatal("somebody runs")
	}
	w.refuses(t, api.ErrThreadsState, suspend(10))
	w.does(t, prio(10, 4), resume(10))
	w.state(t, 1, api.Ready)
	w.told(t, suspend(10), done)
	w.does(t, prio(10, 9))
	for _, c := range []api.Call{send(30, 1, 2), send(31, 1, 2), recv(30), recv(31), wait(32), wait(33)} {
		w.does(t, resume(10), c)
		w.runs(t, 0, 0)
		w.told(t, suspend(10), done)
		w.state(t, 1, api.Idle)
		w.waits(t, 0, false)
		w.waits(t, 1, false)
		w.refuses(t, api.ErrThreadsState, suspend(10))
		x := w.copied()
		x.does(t, signal(32), signal(33), trySend(30, 1, 1), trySend(31, 1, 1), tryRecv(30), tryRecv(31))
		x.words(t, 1)
		x.word(t, 0, 0, true)
		x.word(t, 1, 0, true)
		x.state(t, 1, api.Idle)
	}
	// At another core.
	v := two(t)
	v.told(t, suspend(3), done)
	v.state(t, 1, api.Idle)
	v.state(t, 0, api.Running)
}

func TestPrio(t *testing.T) {
	w := one(t, helper(10, 5)...)
	for _, p := range append(slices.DeleteFunc(slices.Clone(far), func(n int) bool { return n >= 0 && n < 256 }), 256, 257) {
		w.refuses(t, api.ErrArg, prio(10, p), prio(2, p))
	}
	for _, p := range []int{0, 1, 5, 4} {
		w.told(t, prio(10, p), done)
		if x, _ := w.k.Thread(1); x.Prio != p || x.State != api.Ready {
			t.Fatal(x)
		}
		w.runs(t, 0, 0)
	}
	w.told(t, prio(10, 255), done)
	w.runs(t, 0, 0)
	w.told(t, prio(2, 255), done) // done by thread 1: who has the greater one is picked ahead of it
	w.runs(t, 0, 1)
	w.does(t, suspend(10))
	w.told(t, prio(10, 77), done)
	if x, _ := w.k.Thread(1); x.Prio != 77 || x.State != api.Idle {
		t.Fatal(x)
	}
}

// ---- AskSend, AskRecv

func TestSendMeets(t *testing.T) {
	w := two(t, retype(1, 30, api.CapEndpoint, 0, 2), mint(31, 32, api.Write, 77), mint(31, 33, api.Read, 5))
	for _, c := range []api.Call{send(32, 3, 4), trySend(32, -1, math.MinInt), send(31, math.MaxInt, -5), trySend(32, 0, 0)} {
		w.core = 1
		w.told(t, recv(33), done)
		w.waits(t, 1, false, 1)
		w.state(t, 1, api.Blocked)
		w.core = 0
		w.told(t, c, wakes(1))
		w.waits(t, 1, false)
		w.state(t, 1, api.Ready)
		w.state(t, 0, api.Running)
		badge := uint64(77)
		if c.At == 31 {
			badge = 0
		}
		w.words(t, 1, badge, uint64(c.A), uint64(c.B))
		w.words(t, 0)
	}
}

func TestRecvMeets(t *testing.T) {
	w := two(t, retype(1, 30, api.CapEndpoint, 0, 2), mint(31, 32, api.Write, 77), mint(31, 33, api.Read, 5))
	for _, c := range []api.Call{send(32, 3, 4), send(32, -1, math.MinInt), send(31, math.MaxInt, -5), send(32, 0, 0)} {
		for _, r := range []api.Call{recv(33), tryRecv(33), recv(31)} {
			w.core = 1
			w.told(t, c, done)
			w.waits(t, 1, true, 1)
			w.state(t, 1, api.Blocked)
			w.core = 0
			w.told(t, r, wakes(1))
			w.waits(t, 1, false)
			w.state(t, 1, api.Ready)
			w.state(t, 0, api.Running)
			badge := uint64(77)
			if c.At == 31 {
				badge = 0
			}
			w.words(t, 0, badge, uint64(c.A), uint64(c.B))
			w.words(t, 1)
		}
	}
}

// TestWordsStay: a message changes three words, a signal one.
func TestWordsStay(t *testing.T) {
	w := two(t, retype(1, 30, api.CapEndpoint, 0, 1), retype(1, 31, api.CapNotify, 0, 1), mint(30, 32, 7, 10), mint(31, 33, 7, 20))
	w.core = 1
	w.does(t, recv(30))
	w.core = 0
	w.does(t, send(32, 11, 12))
	w.words(t, 1, 10, 11, 12)
	w.core = 1
	w.does(t, wait(31))
	w.core = 0
	w.told(t, signal(33), wakes(1))
	w.words(t, 1, 20, 11, 12)
}

func TestNobodyMet(t *testing.T) {
	w := one(t, append(helper(10, 5), retype(1, 30, api.CapEndpoint, 0, 1))...)
	w.told(t, trySend(30, 1, 2), done)
	w.told(t, tryRecv(30), done)
	w.waits(t, 0, false)
	w.runs(t, 0, 0)
	w.words(t, 0)
	// C is yes, if it is not 0.
	for _, n := range []int{1, 2, -1, math.MinInt, math.MaxInt} {
		for _, ask := range []int{api.AskSend, api.AskRecv} {
			c := w.copied()
			c.told(t, api.Call{Ask: ask, At: 30, C: n}, done)
			c.waits(t, 0, ask == api.AskSend, 0)
			c.state(t, 0, api.Blocked)
			c.runs(t, 0, 1)
		}
	}
	// Who waits for the same, too, meets nobody.
	w.does(t, recv(30))
	w.does(t, recv(30))
	w.waits(t, 0, false, 0, 1)
	w.refuses(t, api.ErrKernelState, yield())
	w = one(t, append(helper(10, 5), retype(1, 30, api.CapEndpoint, 0, 1))...)
	w.does(t, send(30, 1, 2))
	w.told(t, trySend(30, 3, 4), done)
	w.does(t, send(30, 3, 4))
	w.waits(t, 0, true, 0, 1)
}

// TestMessagesInOrder: those that wait meet in the order in which they came, each with its own message.
func TestMessagesInOrder(t *testing.T) {
	w := one(t, retype(1, 30, api.CapEndpoint, 0, 2), mint(30, 32, api.Write, 1), mint(30, 33, api.Write, 2), prio(2, 1))
	for at := 10; at < 13; at++ {
		w.does(t, helper(at, 20-at)...)
	}
	w.does(t, send(32, 5, 6), send(33, 7, 8), send(30, 9, 10))
	w.waits(t, 0, true, 1, 2, 3)
	w.runs(t, 0, 0)
	w.does(t, prio(2, 100))
	for i, words := range [][]uint64{{1, 5, 6}, {2, 7, 8}, {0, 9, 10}} {
		w.told(t, tryRecv(31), done)
		w.told(t, tryRecv(30), wakes(i+1))
		w.words(t, 0, words...)
	}
	w.told(t, tryRecv(30), done)
}

// ---- AskSignal, AskWait

func TestSignalAndWait(t *testing.T) {
	w := two(t, retype(1, 30, api.CapNotify, 0, 2), mint(30, 32, api.Write, 1), mint(30, 33, api.Write, 4), mint(30, 34, api.Read, 8))
	w.told(t, tryWait(34), done)
	w.told(t, signal(32), done)
	w.told(t, signal(33), done)
	w.word(t, 0, 5, true)
	w.word(t, 1, 0, false)
	w.told(t, tryWait(34), tells(5))
	w.word(t, 0, 0, false)
	w.words(t, 0)
	w.told(t, tryWait(34), done)
	w.runs(t, 0, 0)
	w.told(t, signal(33), done)
	w.told(t, wait(30), tells(4))
	w.runs(t, 0, 0)
	// A word of 0 is one.
	w.told(t, signal(30), done)
	w.word(t, 0, 0, true)
	w.told(t, wait(30), done)
	w.word(t, 0, 0, false)
	w.runs(t, 0, 0)
	// Without one: to rest; the badge comes as word 0 of who waited.
	for _, n := range []int{1, -1, math.MinInt, math.MaxInt} {
		w.core = 1
		w.told(t, api.Call{Ask: api.AskWait, At: 34, C: n}, done)
		w.state(t, 1, api.Blocked)
		w.core = 0
		w.told(t, signal(33), wakes(1))
		w.words(t, 1, 4)
		w.state(t, 1, api.Ready)
		w.word(t, 0, 0, false)
	}
	w.core = 1
	w.does(t, wait(31))
	w.core = 0
	w.told(t, signal(33), done)
	w.state(t, 1, api.Blocked)
	w.told(t, signal(31), wakes(1))
	w.words(t, 1, 0)
	w.told(t, tryWait(30), tells(4))
}

func TestWaitInOrder(t *testing.T) {
	w := one(t, retype(1, 30, api.CapNotify, 0, 1), prio(2, 1))
	for at := 10; at < 13; at++ {
		w.does(t, helper(at, 20-at)...)
	}
	w.does(t, wait(30), wait(30), wait(30))
	w.runs(t, 0, 0)
	w.does(t, prio(2, 100))
	for i := range 3 {
		w.does(t, mint(30, 40+i, 7, 50+i))
		w.told(t, signal(40+i), wakes(i+1))
		w.words(t, i+1, uint64(50+i))
	}
	w.told(t, signal(41), done)
	w.word(t, 0, 51, true)
}

// TestRestPicks: who is ready runs at once, the best one first; nobody, if nobody is.
func TestRestPicks(t *testing.T) {
	for _, c := range []api.Call{send(30, 1, 2), recv(30), wait(31)} {
		w := one(t, retype(1, 30, api.CapEndpoint, 0, 1), retype(1, 31, api.CapNotify, 0, 1))
		for _, x := range [][2]int{{10, 2}, {11, 4}, {12, 4}, {13, 0}} {
			w.does(t, helper(x[0], x[1])...)
		}
		for _, next := range []int{2, 3, 1, 4} {
			w.told(t, c, done)
			w.runs(t, 0, next)
		}
		w.told(t, c, done)
		if id, is := w.k.Runs(0); is || id != 0 {
			t.Fatal(id, is)
		}
		w.refuses(t, api.ErrKernelState, c)
	}
}

// ---- AskTable, AskMap, AskUnmap

func TestTable(t *testing.T) {
	w := one(t, retype(1, 10, api.CapTable, 0, 4), retype(1, 14, api.CapSpace, 0, 1), retype(1, 15, api.CapFrame, 0, 1))
	for _, i := range noSlots { // a place is 0 to 63, too
		w.refuses(t, api.ErrArg, table(10, 3, i))
	}
	w.told(t, table(10, 3, 0), done)
	w.told(t, table(11, 3, 63), done)
	w.refuses(t, api.ErrTablesFull, table(10, 3, 0), table(10, 3, 1), table(12, 3, 0), table(12, 3, 63), table(11, 3, 62))
	w.told(t, table(12, 14, 5), done)
	w.does(t, lay(15, 14, 320, 7), lay(15, 3, 63, 7), lay(15, 3, 4095, 7))
	w.refuses(t, api.ErrTablesNone, lay(15, 3, 320, 7), lay(15, 14, 63, 7))
	w.pages(t, 0, laid(63, 0, 7), laid(4095, 0, 7))
	w.pages(t, 1, laid(320, 0, 7))
	// A table whose other capability goes stays.
	w.does(t, mint(10, 20, 7, 0), remove(10))
	w.pages(t, 0, laid(63, 0, 7), laid(4095, 0, 7))
}

func TestMap(t *testing.T) {
	w := spaces(t)
	w.told(t, lay(10, 3, 0, 7), done)
	w.told(t, lay(10, 3, 1, 1), done)
	w.told(t, lay(12, 17, 64, 0), done)
	w.told(t, lay(10, 18, 63, 6), done)
	w.pages(t, 0, laid(0, 0, 7), laid(1, 0, 1))
	w.pages(t, 1, laid(64, 2, 0))
	w.pages(t, 2, laid(63, 0, 6))
	w.refuses(t, api.ErrTablesFull, lay(10, 3, 0, 7), lay(11, 3, 1, 1))
	w.refuses(t, api.ErrTablesNone, lay(10, 3, 64, 7), lay(10, 3, 4031, 7), lay(10, 17, 0, 7))
	for _, page := range []int{math.MinInt, -1, 4096, 4097, 1 << 32, math.MaxInt} {
		w.refuses(t, api.ErrArg, lay(10, 3, page, 7))
	}
	// All rights of the capability and of B, and no others.
	page := 2
	for rights := range 8 {
		w.does(t, mint(11, 20, rights, 0))
		for b := range 8 {
			for _, high := range []int{0, 8, 1 << 40, math.MinInt} {
				w.told(t, lay(20, 3, page, b+high), done)
				if l := w.k.Pages(0); l[2] != laid(page, 1, rights&b) {
					t.Fatal(l, rights, b)
				}
				w.told(t, unmap(3, page), forgets(away(0, page, 1, rights&b)))
			}
		}
		w.does(t, lay(20, 3, page, -1))
		if l := w.k.Pages(0); l[2] != laid(page, 1, rights) {
			t.Fatal(l, rights)
		}
		w.does(t, unmap(3, page), remove(20))
		page++
	}
}

func TestUnmap(t *testing.T) {
	w := spaces(t)
	w.does(t, lay(10, 3, 0, 7), lay(11, 3, 1, 6), lay(11, 17, 64, 5), lay(12, 3, 4095, 4))
	for _, page := range []int{math.MinInt, -1, 4096, math.MaxInt} {
		w.refuses(t, api.ErrArg, unmap(3, page), unmap(17, page))
	}
	w.refuses(t, api.ErrTablesNone, unmap(3, 2), unmap(3, 64), unmap(17, 0), unmap(17, 65), unmap(18, 0))
	w.told(t, unmap(3, 1), forgets(away(0, 1, 1, 6)))
	w.told(t, unmap(17, 64), forgets(away(1, 64, 1, 5)))
	w.told(t, unmap(3, 4095), forgets(away(0, 4095, 2, 4)))
	w.told(t, unmap(3, 0), forgets(away(0, 0, 0, 7)))
	w.refuses(t, api.ErrTablesNone, unmap(3, 0), unmap(3, 1), unmap(17, 64), unmap(3, 4095))
	w.told(t, lay(11, 3, 1, 1), done)
	w.pages(t, 0, laid(1, 1, 1))
}

// ---- AskBind, AskAck, Irq

func TestBind(t *testing.T) {
	w := two(t, retype(1, 30, api.CapNotify, 0, 2), mint(31, 32, 0, 64))
	w.told(t, ack(5), done)
	w.told(t, bind(5, 32), done)
	w.refuses(t, api.ErrIrqBusy, bind(5, 32), bind(5, 30))
	w.irq(t, 1, -1, api.OK)
	w.word(t, 0, 0, false)
	w.word(t, 1, 0, false)
	w.told(t, bind(6, 30), done)
	w.irq(t, 0, -1, api.OK)
	w.word(t, 1, 64, true)
	w.word(t, 0, 0, false)
	w.irq(t, 1, -1, api.OK)
	w.word(t, 0, 0, true)
	// It goes by the badge that With's had, whatever is in its slot later.
	w.does(t, tryWait(31), ack(5), remove(32), mint(31, 32, 7, 8))
	w.irq(t, 0, -1, api.OK)
	w.word(t, 1, 64, true)
}

func TestAck(t *testing.T) {
	w := two(t, retype(1, 30, api.CapNotify, 0, 1), mint(30, 31, 7, 2), bind(5, 31))
	w.told(t, ack(5), done)
	w.irq(t, 0, -1, api.OK)
	w.told(t, tryWait(30), tells(2))
	// Raised meanwhile, any times: it is told once, at the Ack.
	for range 3 {
		w.irq(t, 0, -1, api.OK)
	}
	w.word(t, 0, 0, false)
	w.told(t, ack(5), done)
	w.word(t, 0, 2, true)
	w.told(t, tryWait(30), tells(2))
	w.told(t, ack(5), done)
	w.word(t, 0, 0, false)
	// With one that waits: it is woken, by the line or by the Ack.
	w.core = 1
	w.does(t, wait(30))
	w.irq(t, 0, 1, api.OK)
	w.words(t, 1, 2)
	w.state(t, 1, api.Ready)
	w.irq(t, 0, -1, api.OK)
	w.does(t, wait(30))
	w.core = 0
	w.told(t, ack(5), wakes(1))
	w.words(t, 1, 2)
	w.state(t, 1, api.Ready)
	w.word(t, 0, 0, false)
	w.told(t, ack(5), done)
	// Another line's makes no difference.
	w.irq(t, 0, -1, api.OK)
	w.irq(t, 0, -1, api.OK)
	w.told(t, tryWait(30), tells(2))
	w.told(t, ack(6), done)
	w.word(t, 0, 0, false)
}

// ---- P18.3

func TestP183Irq(t *testing.T) {
	w := one(t)
	for _, n := range []int{math.MinInt, -1, 8, 9, 64, math.MaxInt} {
		w.irq(t, n, -1, api.ErrIrqNone)
	}
	for n := range 8 {
		w.irq(t, n, -1, api.OK)
	}
	// A thread of number 0 is somebody, too.
	w.does(t, retype(1, 30, api.CapNotify, 0, 1), bind(4, 30), wait(30))
	w.irq(t, 0, 0, api.OK)
	w.state(t, 0, api.Ready)
	w.does(t, yield())
}

func TestP183Tick(t *testing.T) {
	w := two(t, helper(20, 5)...)
	for left := 4; left > 0; left-- {
		w.tick(t, 0, true)
		if x, _ := w.k.Thread(0); x.Left != left {
			t.Fatal(x)
		}
	}
	w.runs(t, 0, 0)
	w.tick(t, 0, true)
	w.runs(t, 0, 2)
	if x, _ := w.k.Thread(1); x.Left != 5 {
		t.Fatal(x)
	}
	for _, core := range append(slices.Clone(far), 2, 8) {
		w.tick(t, core, false)
	}
	w.does(t, suspend(3))
	w.tick(t, 1, false)
	// Nobody is picked by a tick where nobody runs.
	w.does(t, resume(3))
	w.tick(t, 1, false)
	w.state(t, 1, api.Ready)
}

// ---- P18.4

func TestP184None(t *testing.T) {
	w := one(t, retype(1, 10, api.CapEndpoint, 0, 3), retype(1, 13, api.CapNotify, 0, 2), retype(1, 15, api.CapThread, 0, 1), retype(1, 16, api.CapSpace, 0, 1), retype(1, 17, api.CapUntyped, 4, 1))
	for _, n := range append(slices.Clone(far), 3, 4, 8) {
		if x, e := w.k.Thread(n); x != (api.Thread{}) || e != api.ErrThreadsNone {
			t.Error(n, x, e)
		}
		if u, is := w.k.Untyped(n); u != (api.Untyped{}) || is {
			t.Error(n, u, is)
		}
		if l, is := w.k.Waits(n); len(l) != 0 || is {
			t.Error(n, l, is)
		}
		if word, is := w.k.Word(n); word != 0 || is {
			t.Error(n, word, is)
		}
		if l := w.k.Pages(n); len(l) != 0 {
			t.Error(n, l)
		}
		if id, is := w.k.Runs(n); id != 0 || is {
			t.Error(n, id, is)
		}
	}
	// The last ones.
	if _, e := w.k.Thread(1); e != api.OK {
		t.Error(e)
	}
	if u, is := w.k.Untyped(1); u.Bits != 4 || !is {
		t.Error(u, is)
	}
	if _, e := w.k.Thread(2); e != api.ErrThreadsNone {
		t.Error(e)
	}
	if _, is := w.k.Untyped(2); is {
		t.Error("memory 2")
	}
}

func spoil[T any](l []T, x T) {
	l = l[:cap(l)]
	for i := range l {
		l[i] = x
	}
}

// TestAnswersAreTheCallers: what is told is new memory each time.
func TestAnswersAreTheCallers(t *testing.T) {
	w := spaces(t)
	w.does(t, lay(10, 3, 1, 7), lay(10, 3, 2, 7), retype(1, 30, api.CapEndpoint, 0, 1))
	w.does(t, helper(31, 9)...)
	w.does(t, recv(30))
	for range 2 {
		spoil(w.k.Held(), api.Held{At: api.Slot{Node: 9, I: 9}})
		spoil(w.k.Tree(), api.Slot{Node: 9, I: 9})
		l, _ := w.k.Waits(0)
		spoil(l, 99)
		spoil(w.k.Pages(0), laid(9, 9, 9))
		w.looks(t, "what was told was overwritten")
	}
	told := w.k.Do(0, remove(10))
	if !same(told, w.p.do(0, remove(10))) || len(told.Forget) != 2 {
		t.Fatal(told)
	}
	spoil(told.Forget, away(9, 9, 9, 9))
	w.looks(t, "Forget was overwritten")
}

// busy is a kernel in which there is some of everything: who waits everywhere, pages, a line that was raised meanwhile, memory within memory.
func busy(t *testing.T) *pair {
	t.Helper()
	w := two(t, retype(1, 10, api.CapFrame, 0, 2), retype(1, 12, api.CapTable, 0, 2), retype(1, 14, api.CapSpace, 0, 1), retype(1, 15, api.CapEndpoint, 0, 2), retype(1, 17, api.CapNotify, 0, 2), retype(1, 19, api.CapUntyped, 8, 1), retype(19, 20, api.CapNode, 3, 1), mint(15, 21, 6, 5), mint(17, 22, 7, 6), mint(18, 23, 7, 9), mint(18, 24, 7, 2))
	w.does(t, table(12, 4, 0), table(13, 14, 2), lay(10, 4, 3, 7), lay(11, 14, 130, 5), lay(10, 14, 129, 4))
	w.does(t, bind(5, 22), bind(6, 23), signal(23))
	w.irq(t, 0, -1, api.OK)
	w.irq(t, 0, -1, api.OK)
	w.does(t, tryWait(17))
	for at := 30; at < 36; at++ {
		w.does(t, helper(at, 60-at)...)
	}
	w.does(t, recv(15), recv(15), send(16, 1, 2), wait(17), wait(17))
	w.tick(t, 0, true)
	w.tick(t, 1, true)
	return w
}

// changes are calls each of which changes a busy kernel in another way.
func changes() []api.Call {
	return []api.Call{
		retype(1, 40, api.CapEndpoint, 0, 2), retype(1, 40, api.CapNotify, 0, 2), retype(1, 40, api.CapFrame, 0, 1), retype(1, 40, api.CapTable, 0, 1), retype(1, 40, api.CapSpace, 0, 1), retype(1, 40, api.CapThread, 0, 1), retype(1, 40, api.CapNode, 1, 1), retype(1, 40, api.CapUntyped, 4, 1), retype(19, 40, api.CapEndpoint, 0, 1),
		mint(10, 40, 1, 0), move(10, 40), remove(10), remove(12), remove(30), revoke(1), revoke(19), revoke(17),
		resume(30), suspend(31), suspend(33), prio(35, 1), prio(3, 9),
		trySend(21, 1, 2), send(16, 3, 4), tryRecv(16), recv(15), signal(22), signal(24), tryWait(18), wait(17),
		table(13, 4, 5), lay(11, 4, 5, 7), unmap(4, 3), unmap(14, 130), ack(5), yield(),
	}
}

// TestP184CopyGoesItsOwnWay: whatever is done to a copy leaves its original, and the other way round.
func TestP184CopyGoesItsOwnWay(t *testing.T) {
	w := busy(t)
	for _, c := range changes() {
		a, b := w.copied(), w.copied()
		was := a.p.text(a.k)
		a.does(t, c)
		b.looks(t, fmt.Sprintf("another copy was changed by %+v", c))
		w.looks(t, fmt.Sprintf("a copy was changed by %+v", c))
		if c.Ask != api.AskAck && a.p.text(a.k) == was && c.Ask != api.AskTable {
			t.Errorf("%+v changes nothing", c)
		}
		// What is hidden, too: the same calls are told the same by original and copies.
		for _, x := range changes() {
			b.follows(t, x)
			a.follows(t, x)
		}
		w.looks(t, fmt.Sprintf("copies went on behind %+v", c))
	}
	a := w.copied()
	for range 3 {
		for _, c := range changes() {
			w.follows(t, c)
		}
		w.irq(t, 1, -1, api.OK)
	}
	a.looks(t, "the original went on")
	// A line.
	a.irq(t, 0, -1, api.OK)
	b := a.copied()
	b.told(t, ack(5), wakes(5))
	b.told(t, ack(5), done)
	a.told(t, ack(5), wakes(5))
	// A tick.
	b = a.copied()
	for range 4 {
		b.tick(t, 0, true)
	}
	a.looks(t, "a copy ticked")
}

func TestAskingChangesNothing(t *testing.T) {
	w := busy(t)
	want := w.p.text(w.k)
	for range 3 {
		if got := w.p.text(w.k); got != want {
			t.Fatal(got, want)
		}
		w.k.Copy()
	}
	w.follows(t, changes()...)
}

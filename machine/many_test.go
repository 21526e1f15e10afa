package machine_test

import (
	"fmt"
	"slices"
	"testing"

	"buttress/api"
	"buttress/kernel"
	"buttress/machine"
)

// TestAllShort: any four of some items, one behind the other, from some states on.
func TestAllShort(t *testing.T) {
	items := append(steps(0, 1), load(0, 3), load(1, 4), wants(0, dropTable), wants(1, unmap3), wants(1, lay3), irq(0, 0), tick(1))
	start := furnished(t)
	start.follows(t, load(1, 3))
	asked := start.copied()
	asked.follows(t, wants(0, unmap3), wants(1, dropTable), step(0))
	for _, w := range []*pair{start, asked} {
		deeper(t, w, items, 4)
	}
}

func deeper(t *testing.T, w *pair, items []api.Item, depth int) {
	t.Helper()
	if depth == 0 {
		return
	}
	for _, x := range items {
		c := w.copied()
		c.follows(t, x)
		deeper(t, c, items, depth-1)
	}
}

// row is a row of numbers that is the same at every run.
type row uint64

func (r *row) next(n int) int {
	*r = *r*6364136223846793005 + 1442695040888963407
	return int(*r>>33) % n
}

func (r *row) of(l ...int) int { return l[r.next(len(l))] }

// pages are those that calls and users name most times, of two tables.
var pages = []int{0, 1, 2, 3, 63, 64, 65}

// Of the calls that follow the first ones make what the others go by, the next ones delete.
const (
	makes   = 10
	deletes = 5
)

// busy are calls of so many cores: slots 0 node, 1 untyped, 2 .. threads, then a space, then two lines; those of 30 and more are made by them.
func (r *row) busy(cores int) []api.Call {
	space := 2 + cores
	l := []api.Call{
		{Ask: api.AskRetype, At: 1, With: 30, A: api.CapTable, C: 1}, {Ask: api.AskRetype, At: 1, With: 31, A: api.CapTable, C: 1},
		{Ask: api.AskRetype, At: 1, With: 32, A: api.CapFrame, C: 1}, {Ask: api.AskRetype, At: 1, With: 33, A: api.CapFrame, C: 1},
		{Ask: api.AskRetype, At: 1, With: 35, A: api.CapNotify, C: 1}, {Ask: api.AskMint, At: 35, With: 36, A: 7, B: 5}, {Ask: api.AskRetype, At: 1, With: 37, A: api.CapEndpoint, C: 1},
		{Ask: api.AskTable, At: 30, With: space, A: 0}, {Ask: api.AskTable, At: 31, With: space, A: 1}, {Ask: api.AskBind, At: space + 1, With: 36},
		{Ask: api.AskDelete, At: 30}, {Ask: api.AskDelete, At: 31}, {Ask: api.AskDelete, At: 32}, {Ask: api.AskDelete, At: 33}, {Ask: api.AskRevoke, At: 1},
		{Ask: api.AskWait, At: 35}, {Ask: api.AskSignal, At: 36}, {Ask: api.AskAck, At: space + 1}, {Ask: api.AskYield}, {Ask: -1},
	}
	for range 12 {
		l = append(l, api.Call{Ask: api.AskMap, At: 32 + r.next(2), With: space, A: r.of(pages...), B: r.next(8)})
	}
	for range 10 {
		l = append(l, api.Call{Ask: api.AskUnmap, At: space, A: r.of(pages...)})
	}
	for core := range cores {
		l = append(l, api.Call{Ask: api.AskPrio, At: 2 + core, A: r.next(256)})
	}
	return l
}

// resting are calls that may leave a core without anybody who runs there.
func resting(cores int) []api.Call {
	return []api.Call{
		{Ask: api.AskWait, At: 35, C: 1}, {Ask: api.AskSend, At: 37, A: 3, B: 4, C: 1}, {Ask: api.AskRecv, At: 37, C: 1},
		{Ask: api.AskSuspend, At: 1 + cores}, {Ask: api.AskResume, At: 1 + cores}, {Ask: api.AskResume, At: 2},
	}
}

// call is one of the program, those that delete less often.
func (r *row) call(calls int) int {
	n := r.next(calls)
	if n >= makes && n < makes+deletes && r.next(4) > 0 {
		n = r.next(makes)
	}
	return n
}

// item is one that may be in a script, or, seldom, may not.
func (r *row) item(cores, calls int) api.Item {
	x := api.Item{Core: r.next(cores)}
	switch n := r.next(40); {
	case n < 22:
		// A step has no use for numbers.
		x.A, x.B = r.next(256), r.next(256)
	case n < 29:
		x = wants(x.Core, r.call(calls))
	case n < 35:
		x = load(x.Core, r.of(append(pages, 4, 66, 255)...))
	case n < 37:
		x = irq(x.Core, r.of(0, 0, 0, 1, 2, 8, 255))
	case n < 39:
		x = tick(x.Core)
	default:
		x = api.Item{Kind: r.next(6) - 1, Core: r.next(cores+2) - 1, A: r.of(-1, 0, calls, 255, 256), B: r.of(-1, 0, 1, 255, 256)}
	}
	return x
}

// furnish are the items by which calls of the lowest numbers are done first.
func furnish(many int) []api.Item {
	var l []api.Item
	for n := range many {
		l = append(l, whole(0, n)...)
	}
	return l
}

// machines are of 1 to 8 cores, with room for 1 to 4 pages, in turns; every third one has calls that rest.
func (r *row) machine(round int) (api.Booted, []api.Call, int) {
	cores := 1 + round%8
	b := api.Booted{Cores: cores, Bits: 16, Lines: 2}
	for range cores {
		b.Prios = append(b.Prios, r.next(4))
	}
	program := r.busy(cores)
	if round%3 == 0 {
		program = append(program, resting(cores)...)
	}
	return b, program, 1 + r.next(4)
}

// TestManyItems: whatever was done, a machine shows and tells what is told once more; copies of earlier stay, and go on in their originals' place.
func TestManyItems(t *testing.T) {
	at := row(19)
	seen := map[int]int{}
	for round := range 96 {
		b, program, room := at.machine(round)
		w := fresh(t, b, program, room)
		w.follows(t, furnish(makes)...)
		var earlier []*pair
		for n := range 400 {
			x := at.item(b.Cores, len(program))
			if s, is := w.m.Copy().Step(x); is {
				seen[s.Kind]++
			}
			w.follows(t, x)
			if n%80 == 40 {
				earlier = append(earlier, w.copied())
			}
			if n%60 == 50 {
				w = w.copied()
			}
		}
		for _, c := range append(earlier, w) {
			c.looks(t, "a copy of earlier")
			c.goesOn(t)
		}
	}
	for kind := range api.Seens {
		if seen[kind] < 200 {
			t.Errorf("what is of the kind %d was seen %d times alone", kind, seen[kind])
		}
	}
}

// alone is one kernel, that does what was seen with the lock, as far as it was.
type alone struct {
	k       *kernel.Kernel
	before  *kernel.Kernel // as it was ahead of the call that is not over, if there is one
	program []api.Call
}

// does holds what was seen to what the kernel says.
func (a *alone) does(t *testing.T, s api.Seen) {
	t.Helper()
	switch s.Kind {
	case api.SeenDid:
		a.before = a.k.Copy()
		if told := a.k.Do(s.Core, a.program[s.N]); !sameTold(told, s.T) {
			t.Fatalf("there is seen %+v, and it is %+v", s, told)
		}
	case api.SeenLeft:
		a.before = nil
	case api.SeenIrq:
		if wakes, e := a.k.Irq(s.N); wakes != s.T.Wakes || e != s.T.E {
			t.Fatalf("there is seen %+v, and it is %d, %d", s, wakes, e)
		}
	case api.SeenTick:
		if is := a.k.Tick(s.Core); is != s.Is {
			t.Fatalf("there is seen %+v, and it is %v", s, is)
		}
	case api.SeenLoad:
		if !a.may(s) {
			t.Fatalf("there is seen %+v, and it is %v", s, a.k.Pages(0))
		}
	}
}

// may tells whether a page may be seen so: as it is, or, while its call is not over, as it was.
func (a *alone) may(s api.Seen) bool {
	if !s.Is {
		return s.P == api.Page{} && !slices.ContainsFunc(a.k.Pages(0), func(l api.Laid) bool { return l.At == s.N })
	}
	laid := api.Laid{At: s.N, P: s.P}
	return slices.Contains(a.k.Pages(0), laid) || a.before != nil && slices.Contains(a.before.Pages(0), laid)
}

// known holds each line of each TLB to be of a page that is mapped.
func (a *alone) known(t *testing.T, m *machine.Machine, cores int) int {
	t.Helper()
	many := 0
	for core := range cores {
		for _, l := range m.Lines(core) {
			if many++; !slices.Contains(a.k.Pages(l.Space), api.Laid{At: l.Page, P: l.P}) {
				t.Fatalf("core %d remembers %+v, and there is\n%s", core, l, text(m, cores))
			}
		}
	}
	return many
}

// TestP194 asks of a machine alone: what was done with the lock is what one kernel does; what was unmapped is seen nowhere when its call is over; calls are over in the order in which their cores came to stand in line.
func TestP194(t *testing.T) {
	at := row(194)
	remembered, forgot, over := 0, 0, 0
	for round := range 64 {
		b, program, room := at.machine(round)
		m, _ := machine.New(b, program, room)
		k, _ := kernel.Boot(b)
		a := &alone{k: k, program: program}
		var line []int
		script := furnish(makes)
		for range 4000 {
			script = append(script, at.item(b.Cores, len(program)))
		}
		for range 200 {
			for core := range b.Cores {
				script = append(script, step(core))
			}
		}
		for _, x := range script {
			s, is := m.Step(x)
			if !is {
				continue
			}
			a.does(t, s)
			switch s.Kind {
			case api.SeenEnter:
				line = append(line, s.Core)
			case api.SeenDid:
				forgot += len(s.T.Forget)
			case api.SeenLeft:
				if line[0] != s.Core || m.Owed(s.Core) != 0 {
					t.Fatalf("there is seen %+v, and %v stand in line", s, line)
				}
				line = line[1:]
				over++
			}
			if !slices.Equal(m.Line(), line) || !slices.Equal(m.Held(), a.k.Held()) || !slices.Equal(m.Pages(0), a.k.Pages(0)) {
				t.Fatalf("behind %+v %v should stand in line, and there is\n%s", s, line, text(m, b.Cores))
			}
			if len(line) == 0 {
				remembered += a.known(t, m, b.Cores)
			}
		}
		for core := range b.Cores {
			if does, _ := m.Core(core); does != api.Using || m.Owed(core) != 0 {
				t.Fatalf("when all went on in turns there is\n%s", text(m, b.Cores))
			}
		}
	}
	if remembered < 10000 || forgot < 500 || over < 2000 {
		t.Errorf("there were only %d lines, %d pages that were to be forgotten, %d calls", remembered, forgot, over)
	}
}

// TestOneAnswer: R5: the same items are answered the same at every run of them.
func TestOneAnswer(t *testing.T) {
	first := ""
	for run := range 4 {
		at := row(55)
		b, program, room := at.machine(3)
		m, _ := machine.New(b, program, room)
		got := ""
		for range 600 {
			x := at.item(b.Cores, len(program))
			s, is := m.Step(x)
			got += fmt.Sprintln(x, s, is) + text(m, b.Cores)
		}
		if run == 0 {
			first = got
		}
		if got != first {
			t.Fatal("run ", run, " is another one")
		}
	}
}

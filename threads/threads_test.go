package threads_test

import (
	"fmt"
	"math"
	"slices"
	"testing"

	"buttress/api"
	"buttress/threads"
)

// far are numbers of no thread, core, word or priority; many have lowest bits that would be right ones.
var far = []int{
	-1, -2, -7, -8, -64, -255, -256, -1 << 31, 1 - 1<<32, -1 << 32, math.MinInt, math.MinInt + 1, math.MinInt + 5, math.MinInt + 63,
	256, 257, 261, 319, 320, 512, 1 << 16, 1<<16 + 1, 1 << 31, 1 << 32, 1<<32 + 1, 1 << 62, 1<<62 + 7, math.MaxInt - 1, math.MaxInt,
}

// from are the numbers from n on that are next to it, and those that are far.
func from(n int) []int {
	return append([]int{n, n + 1, n + 2, n + 8}, far...)
}

// looks holds all that threads tell to what they should be, and what they tell of a part to what they tell of another one.
func looks(t *testing.T, what string, k *threads.Threads, p plain) {
	t.Helper()
	for id, x := range p.list {
		if got, e := k.Get(id); got != x.Thread || e != api.OK {
			t.Fatalf("%s: Get(%d) = %+v, %d, not %+v", what, id, got, e, x.Thread)
		}
	}
	for core := range p.cores {
		id, is := p.runs(core)
		runs(t, what, k, core, id, is)
		for prio := range 256 {
			line(t, what, k, core, prio, p.line(core, prio)...)
		}
	}
	for _, id := range []int{-1, len(p.list), math.MinInt, math.MaxInt} {
		if got, e := k.Get(id); got != (api.Thread{}) || e != api.ErrThreadsNone {
			t.Fatalf("%s: Get(%d) = %+v, %d", what, id, got, e)
		}
	}
	for _, core := range []int{-1, p.cores, math.MinInt, math.MaxInt} {
		runs(t, what, k, core, 0, false)
		line(t, what, k, core, 5)
	}
	sound(t, what, k, len(p.list), p.cores)
}

func runs(t *testing.T, what string, k *threads.Threads, core, want int, wantIs bool) {
	t.Helper()
	if id, is := k.Runs(core); id != want || is != wantIs {
		t.Fatalf("%s: Runs(%d) = %d, %v, not %d, %v", what, core, id, is, want, wantIs)
	}
}

func line(t *testing.T, what string, k *threads.Threads, core, prio int, want ...int) {
	t.Helper()
	if l := k.Line(core, prio); !slices.Equal(l, want) {
		t.Fatalf("%s: Line(%d, %d) = %v, not %v", what, core, prio, l, want)
	}
}

// sound asks of threads alone whether at each core at most one is Running, and just those that are Ready stand in its lines, once.
func sound(t *testing.T, what string, k *threads.Threads, n, cores int) {
	t.Helper()
	stand := make([]int, n)
	for core := range cores {
		for prio := range 256 {
			for _, id := range k.Line(core, prio) {
				stand[id]++
				if x, e := k.Get(id); e != api.OK || x.State != api.Ready || x.Core != core || x.Prio != prio {
					t.Fatalf("%s: %d stands in Line(%d, %d), and is %+v", what, id, core, prio, x)
				}
			}
		}
	}
	running := make([]int, cores)
	for id := range n {
		x, _ := k.Get(id)
		if (x.State == api.Ready) != (stand[id] == 1) || stand[id] > 1 {
			t.Fatalf("%s: %d is %+v, and stands in line %d times", what, id, x, stand[id])
		}
		if x.State < api.Idle || x.State > api.Blocked || x.Left < 1 || x.Left > 5 {
			t.Fatalf("%s: %d is %+v", what, id, x)
		}
		if x.State == api.Running {
			running[x.Core]++
			runs(t, what, k, x.Core, id, true)
		}
	}
	for core, many := range running {
		if _, is := k.Runs(core); is != (many == 1) || many > 1 {
			t.Fatalf("%s: at core %d run %d", what, core, many)
		}
	}
}

// pair are threads, and what they should be.
type pair struct {
	k *threads.Threads
	p plain
}

func fresh(t *testing.T, cores int) *pair {
	t.Helper()
	k, e := threads.New(cores)
	if k == nil || e != api.OK {
		t.Fatalf("New(%d) = %v, %d", cores, k, e)
	}
	return &pair{k, plain{cores: cores}}
}

func (w *pair) copied() *pair {
	return &pair{w.k.Copy(), w.p.copied()}
}

// follows does calls at both, and holds them to each other behind each.
func (w *pair) follows(t *testing.T, calls ...call) {
	t.Helper()
	for _, c := range calls {
		want := c.ofPlain(&w.p)
		if got := c.of(w.k); got != want {
			t.Fatalf("%v answers %v, not %v; then there are %+v", c, got, want, w.p.list)
		}
		looks(t, fmt.Sprint(c), w.k, w.p)
	}
}

// does holds a call to what is told here, beside what follows holds it to.
func (w *pair) does(t *testing.T, c call, want answer) {
	t.Helper()
	if got := c.of(w.k.Copy()); got != want {
		t.Fatalf("%v answers %v, not %v", c, got, want)
	}
	w.follows(t, c)
}

// fails holds calls to an error, and to change nothing.
func (w *pair) fails(t *testing.T, e api.Errno, calls ...call) {
	t.Helper()
	for _, c := range calls {
		if got := c.of(w.k); got != (answer{e: e}) {
			t.Fatalf("%v answers %v, not %d", c, got, e)
		}
		looks(t, fmt.Sprint(c, " that fails"), w.k, w.p)
	}
}

func (w *pair) is(t *testing.T, id int, want api.Thread) {
	t.Helper()
	if x, e := w.k.Get(id); x != want || e != api.OK {
		t.Fatalf("Get(%d) = %+v, %d, not %+v", id, x, e, want)
	}
}

func (w *pair) state(t *testing.T, id, state int) {
	t.Helper()
	if x, e := w.k.Get(id); x.State != state || e != api.OK {
		t.Fatalf("Get(%d) = %+v, %d, not of state %d", id, x, e, state)
	}
}

// made are threads of these priorities, at core 0, of two cores.
func made(t *testing.T, prios ...int) *pair {
	t.Helper()
	w := fresh(t, 2)
	for _, p := range prios {
		w.follows(t, create(p, 0))
	}
	return w
}

// lined are threads of these priorities, at core 0, of two cores, all of them Ready.
func lined(t *testing.T, prios ...int) *pair {
	t.Helper()
	w := made(t, prios...)
	for id := range prios {
		w.follows(t, resume(id))
	}
	return w
}

var states = []int{api.Idle, api.Ready, api.Running, api.Blocked}

// crowd are threads of which the one of number 2 is in a state, with priority 5 at core 0, and 3 of its ticks are left; of its priority 0, 3 and 6 stand in line there, it between them if it is Ready; at the other core one runs, one stands in line.
func crowd(t *testing.T, state int) *pair {
	t.Helper()
	w := fresh(t, 2)
	w.follows(t, create(5, 0), create(4, 0), create(5, 0), create(5, 0), create(5, 1), create(5, 1), create(5, 0))
	w.follows(t, resume(4), pick(1), resume(5), resume(2), pick(0), tick(0), tick(0), reg(2, 7, 99))
	switch state {
	case api.Idle:
		w.follows(t, suspend(2), resume(0))
	case api.Ready:
		w.follows(t, suspend(2), resume(0), resume(2))
	case api.Running:
		w.follows(t, resume(0))
	case api.Blocked:
		w.follows(t, block(2), resume(0))
	}
	w.follows(t, resume(3), resume(6))
	w.is(t, 2, api.Thread{State: state, Prio: 5, Core: 0, Left: 3, Regs: [8]uint64{7: 99}})
	if state == api.Ready {
		line(t, "crowd", w.k, 0, 5, 0, 2, 3, 6)
	} else {
		line(t, "crowd", w.k, 0, 5, 0, 3, 6)
	}
	runs(t, "crowd", w.k, 0, map[bool]int{true: 2}[state == api.Running], state == api.Running)
	return w
}

// alone is as crowd, but nobody else is Ready at core 0.
func alone(t *testing.T, state int) *pair {
	t.Helper()
	w := crowd(t, state)
	w.follows(t, suspend(0), suspend(3), suspend(6))
	return w
}

func TestExample(t *testing.T) {
	w := lined(t, 5, 5)
	w.does(t, pick(0), answer{n: 0, is: true})
	for range 4 {
		w.does(t, tick(0), answer{is: true})
		runs(t, "four ticks", w.k, 0, 0, true)
	}
	w.does(t, tick(0), answer{is: true})
	runs(t, "five ticks", w.k, 0, 1, true)
	w.does(t, create(6, 0), answer{n: 2})
	w.does(t, resume(2), answer{})
	runs(t, "one of 6, resumed", w.k, 0, 1, true)
	w.does(t, pick(0), answer{n: 2, is: true})
}

func TestP101New(t *testing.T) {
	for cores := 1; cores <= 8; cores++ {
		w := fresh(t, cores)
		looks(t, "New", w.k, w.p)
		for c := range cores {
			w.does(t, pick(c), answer{})
			w.does(t, yield(c), answer{})
			w.does(t, tick(c), answer{})
		}
		w.does(t, create(5, cores-1), answer{n: 0})
		w.fails(t, api.ErrArg, create(5, cores))
	}
	for _, cores := range append(from(9), 0) {
		if k, e := threads.New(cores); k != nil || e != api.ErrArg {
			t.Errorf("New(%d) = %v, %d", cores, k, e)
		}
	}
	// What one has no other one has.
	w := lined(t, 5)
	other := fresh(t, 2)
	looks(t, "another New", other.k, other.p)
	looks(t, "the first one", w.k, w.p)
}

func TestP101Make(t *testing.T) {
	w := fresh(t, 3)
	for id, x := range []struct{ prio, core int }{{0, 0}, {255, 2}, {5, 1}, {5, 1}, {254, 0}, {1, 2}} {
		w.does(t, create(x.prio, x.core), answer{n: id})
		w.is(t, id, api.Thread{State: api.Idle, Prio: x.prio, Core: x.core, Left: 5})
	}
	// What a thread has become, a later one is not.
	w.follows(t, reg(0, 0, 9), resume(0), pick(0), tick(0))
	w.does(t, create(0, 0), answer{n: 6})
	w.is(t, 6, api.Thread{State: api.Idle, Prio: 0, Core: 0, Left: 5})
	for p := range 256 {
		one := fresh(t, 1)
		one.does(t, create(p, 0), answer{n: 0})
		one.follows(t, resume(0), pick(0), yield(0))
	}
}

func TestP101MakeWrong(t *testing.T) {
	for _, cores := range []int{1, 2, 7, 8} {
		w := fresh(t, cores)
		for range 2 {
			w.fails(t, api.ErrArg, create(-1, 0), create(256, 0), create(-1, cores-1), create(256, cores-1), create(0, -1), create(255, cores), create(-1, -1), create(256, cores))
			for _, n := range far {
				w.fails(t, api.ErrArg, create(n, 0), create(5, n), create(n, n))
			}
			for _, c := range from(cores) {
				w.fails(t, api.ErrArg, create(5, c), create(-1, c))
			}
			w.follows(t, create(5, cores-1), resume(len(w.p.list)-1))
		}
	}
}

// TestP101MakeMany: the 64th one is there, and no more, whatever became of the others; ErrArg is named ahead of ErrBig.
func TestP101MakeMany(t *testing.T) {
	w := fresh(t, 8)
	for id := range 64 {
		w.does(t, create(id*4, id%8), answer{n: id})
	}
	for range 2 {
		w.fails(t, api.ErrBig, create(0, 0), create(255, 7))
		w.fails(t, api.ErrArg, create(-1, 0), create(256, 7), create(0, -1), create(0, 8), create(math.MinInt, math.MaxInt))
		w.fails(t, api.ErrThreadsNone, resume(64), reg(64, 0, 1), core(64, 0), prio(64, 0))
		for id := range 64 {
			w.follows(t, resume(id))
		}
		for c := range 8 {
			w.does(t, pick(c), answer{n: 56 + c, is: true})
		}
		for id := range 64 {
			w.follows(t, suspend(id))
		}
	}
	c := w.copied()
	c.fails(t, api.ErrBig, create(0, 0))
	// At one core, with one priority, there are as many.
	one := fresh(t, 1)
	for id := range 64 {
		one.does(t, create(7, 0), answer{n: id})
		one.does(t, resume(id), answer{})
	}
	one.fails(t, api.ErrBig, create(7, 0))
	for id := range 64 {
		one.does(t, pick(0), answer{n: id, is: true})
		one.does(t, block(id), answer{})
	}
}

func TestP101Get(t *testing.T) {
	for _, state := range states {
		w := crowd(t, state)
		for _, id := range from(7) {
			if x, e := w.k.Get(id); x != (api.Thread{}) || e != api.ErrThreadsNone {
				t.Errorf("Get(%d) = %+v, %d", id, x, e)
			}
		}
		// What is told is its owner's.
		x, _ := w.k.Get(2)
		x.Regs[7], x.State, x.Prio, x.Core, x.Left = 1, api.States, 77, 1, 44
		looks(t, "threads of which one was changed outside", w.k, w.p)
	}
	w := fresh(t, 1)
	w.fails(t, api.ErrThreadsNone, each(append([]int{0, 1}, far...), resume)...)
	looks(t, "no threads", w.k, w.p)
}

// TestP101Reg: each word alone, in each state, and nothing else.
func TestP101Reg(t *testing.T) {
	for _, state := range states {
		for i := range 8 {
			w := crowd(t, state)
			for _, v := range []uint64{1, math.MaxUint64, 1 << 63, 0, 42, 42} {
				w.does(t, reg(2, i, v), answer{})
				want := api.Thread{State: state, Prio: 5, Core: 0, Left: 3, Regs: [8]uint64{7: 99}}
				want.Regs[i] = v
				w.is(t, 2, want)
			}
		}
		w := crowd(t, state)
		for i := range 8 {
			w.follows(t, reg(0, i, 100+uint64(i)), reg(6, i, 200+uint64(i)), reg(2, 7-i, 300+uint64(i)))
		}
		w.follows(t, pick(0), yield(0), tick(0), core(2, 1), suspend(0))
		for _, i := range append(from(8), -1) {
			w.fails(t, api.ErrArg, reg(0, i, 5), reg(2, i, 5), reg(6, i, 0))
		}
		// That there is none is named first.
		for _, id := range from(7) {
			w.fails(t, api.ErrThreadsNone, reg(id, 0, 5), reg(id, 7, 5), reg(id, -1, 5), reg(id, 8, 5), reg(id, id, 5))
		}
	}
}

// TestP102None: of each call, of no thread, ahead of all else.
func TestP102None(t *testing.T) {
	for _, state := range states {
		w := crowd(t, state)
		for _, id := range from(7) {
			w.fails(t, api.ErrThreadsNone, resume(id), suspend(id), block(id), prio(id, 5), prio(id, -1), prio(id, 256), core(id, 0), core(id, 1), core(id, -1), core(id, 2))
			w.fails(t, api.ErrThreadsNone, prio(id, math.MinInt), prio(id, math.MaxInt), core(id, math.MinInt), core(id, math.MaxInt))
		}
	}
}

func TestP102Resume(t *testing.T) {
	for _, state := range []int{api.Idle, api.Blocked} {
		w := crowd(t, state)
		w.does(t, resume(2), answer{})
		w.is(t, 2, api.Thread{State: api.Ready, Prio: 5, Core: 0, Left: 3, Regs: [8]uint64{7: 99}})
		line(t, "Resume", w.k, 0, 5, 0, 3, 6, 2)
		runs(t, "Resume picks nobody", w.k, 0, 0, false)
		w.fails(t, api.ErrThreadsState, resume(2))
		w = alone(t, state)
		w.does(t, resume(2), answer{})
		line(t, "Resume of who is alone", w.k, 0, 5, 2)
		w.does(t, pick(0), answer{n: 2, is: true})
		w.fails(t, api.ErrThreadsState, resume(2))
	}
	for _, state := range []int{api.Ready, api.Running} {
		crowd(t, state).fails(t, api.ErrThreadsState, resume(2))
		alone(t, state).fails(t, api.ErrThreadsState, resume(2))
	}
	// One of a greater priority runs only when it is picked.
	w := lined(t, 5)
	w.follows(t, pick(0), create(255, 0))
	w.does(t, resume(1), answer{})
	runs(t, "Resume of a greater one", w.k, 0, 0, true)
	line(t, "Resume of a greater one", w.k, 0, 255, 1)
}

func TestP102Suspend(t *testing.T) {
	for _, state := range []int{api.Ready, api.Running, api.Blocked} {
		w := crowd(t, state)
		w.does(t, suspend(2), answer{})
		w.is(t, 2, api.Thread{State: api.Idle, Prio: 5, Core: 0, Left: 3, Regs: [8]uint64{7: 99}})
		line(t, "Suspend", w.k, 0, 5, 0, 3, 6)
		runs(t, "Suspend picks nobody", w.k, 0, 0, false)
		w.fails(t, api.ErrThreadsState, suspend(2))
		w.does(t, pick(0), answer{n: 0, is: true})
		w.does(t, resume(2), answer{})
		line(t, "Suspend and Resume", w.k, 0, 5, 3, 6, 2)
		w = alone(t, state)
		w.does(t, suspend(2), answer{})
		w.does(t, pick(0), answer{})
	}
	crowd(t, api.Idle).fails(t, api.ErrThreadsState, suspend(2))
	alone(t, api.Idle).fails(t, api.ErrThreadsState, suspend(2))
	// First, in the middle, last: the others stay in their order.
	for id, rest := range map[int][]int{0: {2, 3, 6}, 2: {0, 3, 6}, 3: {0, 2, 6}, 6: {0, 2, 3}} {
		w := crowd(t, api.Ready)
		w.does(t, suspend(id), answer{})
		line(t, "Suspend of one of a line", w.k, 0, 5, rest...)
	}
}

func TestP102Block(t *testing.T) {
	w := crowd(t, api.Running)
	w.does(t, block(2), answer{})
	w.is(t, 2, api.Thread{State: api.Blocked, Prio: 5, Core: 0, Left: 3, Regs: [8]uint64{7: 99}})
	line(t, "Block", w.k, 0, 5, 0, 3, 6)
	runs(t, "Block picks nobody", w.k, 0, 0, false)
	runs(t, "Block at another core", w.k, 1, 4, true)
	w.fails(t, api.ErrThreadsState, block(2))
	w.does(t, yield(0), answer{})
	w.does(t, tick(0), answer{})
	w.does(t, pick(0), answer{n: 0, is: true})
	for _, state := range []int{api.Idle, api.Ready, api.Blocked} {
		crowd(t, state).fails(t, api.ErrThreadsState, block(2))
		alone(t, state).fails(t, api.ErrThreadsState, block(2))
	}
}

// TestP102Prio: each priority that there is, in each state; a line is left only by who is Ready.
func TestP102Prio(t *testing.T) {
	for _, state := range states {
		for _, p := range []int{0, 1, 4, 6, 63, 64, 127, 128, 254, 255} {
			w := crowd(t, state)
			w.does(t, prio(2, p), answer{})
			w.is(t, 2, api.Thread{State: state, Prio: p, Core: 0, Left: 3, Regs: [8]uint64{7: 99}})
			line(t, "Prio", w.k, 0, 5, 0, 3, 6)
			if state == api.Ready {
				line(t, "Prio of who is Ready", w.k, 0, p, 2)
			} else {
				line(t, "Prio of who is not Ready", w.k, 0, p)
			}
			runs(t, "Prio picks nobody", w.k, 0, map[bool]int{true: 2}[state == api.Running], state == api.Running)
			w.does(t, prio(2, 5), answer{})
			w.does(t, pick(0), answer{n: map[bool]int{true: 2}[state == api.Running], is: true})
		}
		w := crowd(t, state)
		for p := range 256 {
			w.follows(t, prio(2, p))
		}
		w = crowd(t, state)
		for _, p := range append(from(256), -1) {
			w.fails(t, api.ErrArg, prio(2, p), prio(0, p))
		}
		w = alone(t, state)
		w.fails(t, api.ErrArg, prio(2, -1), prio(2, 256))
	}
	w := crowd(t, api.Ready)
	w.follows(t, create(9, 0), resume(7), create(9, 0), resume(8))
	w.does(t, prio(2, 9), answer{})
	line(t, "Prio comes behind all", w.k, 0, 9, 7, 8, 2)
}

// TestP102PrioOwn: who is Ready goes behind the others of its line, too.
func TestP102PrioOwn(t *testing.T) {
	for id, want := range map[int][]int{0: {2, 3, 6, 0}, 2: {0, 3, 6, 2}, 3: {0, 2, 6, 3}, 6: {0, 2, 3, 6}} {
		w := crowd(t, api.Ready)
		for range 2 {
			w.does(t, prio(id, 5), answer{})
			line(t, "Prio of one's own", w.k, 0, 5, want...)
		}
	}
	w := alone(t, api.Ready)
	w.does(t, prio(2, 5), answer{})
	line(t, "Prio of one's own, alone", w.k, 0, 5, 2)
	for _, state := range []int{api.Idle, api.Running, api.Blocked} {
		for _, w := range []*pair{crowd(t, state), alone(t, state)} {
			was := w.p.copied()
			w.does(t, prio(2, 5), answer{})
			looks(t, "Prio of one's own, of who is not Ready", w.k, was)
		}
	}
}

// TestP102PrioOfRunning: it is Pick that goes by the priority that it has now.
func TestP102PrioOfRunning(t *testing.T) {
	w := crowd(t, api.Running)
	w.does(t, prio(2, 4), answer{})
	runs(t, "less than the line's", w.k, 0, 2, true)
	w.does(t, pick(0), answer{n: 0, is: true})
	line(t, "it is lined up by what it has now", w.k, 0, 4, 2)
	w = crowd(t, api.Running)
	w.follows(t, prio(3, 200))
	w.does(t, prio(2, 200), answer{})
	w.does(t, pick(0), answer{n: 2, is: true})
	w.does(t, yield(0), answer{is: true})
	runs(t, "as great as it", w.k, 0, 3, true)
	line(t, "as great as it", w.k, 0, 200, 2)
}

func TestP102Core(t *testing.T) {
	for _, state := range []int{api.Ready, api.Running} {
		w := crowd(t, state)
		w.does(t, core(2, 1), answer{})
		w.is(t, 2, api.Thread{State: api.Ready, Prio: 5, Core: 1, Left: 3, Regs: [8]uint64{7: 99}})
		line(t, "Core", w.k, 0, 5, 0, 3, 6)
		line(t, "Core comes behind all", w.k, 1, 5, 5, 2)
		runs(t, "Core picks nobody", w.k, 0, 0, false)
		runs(t, "who runs there goes on", w.k, 1, 4, true)
		w.does(t, core(2, 0), answer{})
		line(t, "Core and back", w.k, 0, 5, 0, 3, 6, 2)
		line(t, "Core and back", w.k, 1, 5, 5)
		w = alone(t, state)
		w.follows(t, suspend(4), suspend(5))
		w.does(t, core(2, 1), answer{})
		runs(t, "Core picks nobody", w.k, 1, 0, false)
		w.does(t, pick(0), answer{})
		w.does(t, pick(1), answer{n: 2, is: true})
	}
	// A greater one than who runs there waits until it is picked.
	w := crowd(t, api.Running)
	w.follows(t, prio(2, 200))
	w.does(t, core(2, 1), answer{})
	runs(t, "Core of a greater one", w.k, 1, 4, true)
	w.does(t, pick(1), answer{n: 2, is: true})
	line(t, "Core of a greater one", w.k, 1, 5, 5, 4)
}

// TestP102CoreOfWhoIsNotReady: who is Idle or Blocked stays so, and is lined up at that core when it is resumed.
func TestP102CoreOfWhoIsNotReady(t *testing.T) {
	for _, state := range []int{api.Idle, api.Blocked} {
		w := crowd(t, state)
		w.does(t, core(2, 1), answer{})
		w.is(t, 2, api.Thread{State: state, Prio: 5, Core: 1, Left: 3, Regs: [8]uint64{7: 99}})
		line(t, "Core", w.k, 0, 5, 0, 3, 6)
		line(t, "Core", w.k, 1, 5, 5)
		w.does(t, resume(2), answer{})
		line(t, "Core and Resume", w.k, 0, 5, 0, 3, 6)
		line(t, "Core and Resume", w.k, 1, 5, 5, 2)
	}
}

// TestP102CoreOwn: all stays, in each state, also one's place in line.
func TestP102CoreOwn(t *testing.T) {
	for _, state := range states {
		for _, w := range []*pair{crowd(t, state), alone(t, state)} {
			was := w.p.copied()
			for range 2 {
				w.does(t, core(2, 0), answer{})
				looks(t, "Core of one's own", w.k, was)
			}
			for id, x := range was.list {
				w.does(t, core(id, x.Core), answer{})
				looks(t, "Core of all's own", w.k, was)
			}
		}
	}
}

func TestP102CoreWrong(t *testing.T) {
	for _, state := range states {
		w := crowd(t, state)
		for _, c := range append(from(2), -1) {
			w.fails(t, api.ErrArg, core(2, c), core(0, c), core(4, c))
		}
	}
	for cores := 1; cores <= 8; cores++ {
		w := fresh(t, cores)
		w.follows(t, create(5, 0), resume(0))
		w.does(t, core(0, cores-1), answer{})
		line(t, "the last core", w.k, cores-1, 5, 0)
		w.fails(t, api.ErrArg, core(0, cores), core(0, -1), core(0, 8))
		w.follows(t, pick(cores-1))
		w.fails(t, api.ErrArg, core(0, cores), core(0, -1), core(0, 9))
	}
}

func TestP103Runs(t *testing.T) {
	w := fresh(t, 8)
	for c := range 8 {
		w.follows(t, create(5, c), create(5, c), resume(2*c), resume(2*c+1))
		runs(t, "nobody", w.k, c, 0, false)
		w.follows(t, pick(c))
		runs(t, "somebody", w.k, c, 2*c, true)
	}
	for range 3 {
		looks(t, "asking changes nothing", w.k, w.p)
	}
	for _, c := range from(8) {
		runs(t, "no core", w.k, c, 0, false)
	}
	w.follows(t, block(0), suspend(2), core(4, 3))
	for c, want := range map[int]int{3: 6, 4: 8, 7: 14} {
		runs(t, "somebody still", w.k, c, want, true)
	}
	for c := range 3 {
		runs(t, "nobody any more", w.k, c, 0, false)
	}
}

// TestP103Pick: who runs against the queue's Next: less, the same, greater, none; and nobody who runs.
func TestP103Pick(t *testing.T) {
	for _, x := range []struct{ low, high int }{{0, 1}, {4, 5}, {0, 255}, {254, 255}, {63, 64}, {127, 128}, {191, 192}} {
		w := lined(t, x.high)
		w.does(t, pick(0), answer{n: 0, is: true})
		w.is(t, 0, api.Thread{State: api.Running, Prio: x.high, Left: 5})
		line(t, "who runs stands in no line", w.k, 0, x.high)
		w.follows(t, create(x.high, 0), create(x.low, 0), resume(1), resume(2))
		was := w.p.copied()
		for range 3 {
			w.does(t, pick(0), answer{n: 0, is: true})
			looks(t, "Pick with the same priority in the queue", w.k, was)
		}
		w.follows(t, suspend(1))
		was = w.p.copied()
		w.does(t, pick(0), answer{n: 0, is: true})
		looks(t, "Pick with a lesser priority in the queue", w.k, was)

		w = made(t, x.low, x.low, x.high, x.high, x.low)
		w.follows(t, resume(1), resume(0), pick(0), tick(0), tick(0), resume(4), resume(2), resume(3))
		w.does(t, pick(0), answer{n: 2, is: true})
		line(t, "who ran is lined up behind all", w.k, 0, x.low, 0, 4, 1)
		line(t, "the next one left its line", w.k, 0, x.high, 3)
		w.is(t, 1, api.Thread{State: api.Ready, Prio: x.low, Left: 3})
		w.is(t, 2, api.Thread{State: api.Running, Prio: x.high, Left: 5})
		w.does(t, block(2), answer{})
		w.does(t, pick(0), answer{n: 3, is: true})
		w.does(t, block(3), answer{})
		w.does(t, pick(0), answer{n: 0, is: true})
	}
}

func TestP103PickNobody(t *testing.T) {
	w := made(t, 5, 5)
	was := w.p.copied()
	w.does(t, pick(0), answer{})
	w.does(t, pick(1), answer{})
	looks(t, "Pick of nobody", w.k, was)
	w.follows(t, resume(0))
	w.does(t, pick(1), answer{})
	w.does(t, pick(0), answer{n: 0, is: true})
	w.does(t, pick(0), answer{n: 0, is: true})
	w.does(t, block(0), answer{})
	w.does(t, pick(0), answer{})
	w.state(t, 0, api.Blocked)
	w.state(t, 1, api.Idle)
}

// TestNoCore: of a core that is not there nobody is told, and nothing changes.
func TestNoCore(t *testing.T) {
	for _, state := range states {
		w := crowd(t, state)
		for _, c := range append(from(2), 7, 8, 9) {
			runs(t, "no core", w.k, c, 0, false)
			for _, x := range []call{pick(c), yield(c), tick(c)} {
				if got := x.of(w.k); got != (answer{}) {
					t.Fatalf("%v answers %v", x, got)
				}
				looks(t, fmt.Sprint(x, " of no core"), w.k, w.p)
			}
			for _, p := range []int{-1, 0, 4, 5, 255, 256, math.MinInt, math.MaxInt, c} {
				line(t, "no core", w.k, c, p)
			}
		}
	}
}

func TestP104Yield(t *testing.T) {
	w := crowd(t, api.Running)
	w.does(t, yield(0), answer{is: true})
	w.is(t, 2, api.Thread{State: api.Ready, Prio: 5, Left: 5, Regs: [8]uint64{7: 99}})
	runs(t, "Yield", w.k, 0, 0, true)
	line(t, "Yield", w.k, 0, 5, 3, 6, 2)
	w.does(t, yield(0), answer{is: true})
	runs(t, "Yield again", w.k, 0, 3, true)
	line(t, "Yield again", w.k, 0, 5, 6, 2, 0)

	// Who is alone goes on, with a new turn; so does who has only lesser ones beside it.
	w = alone(t, api.Running)
	for range 2 {
		w.does(t, yield(0), answer{is: true})
		w.is(t, 2, api.Thread{State: api.Running, Prio: 5, Left: 5, Regs: [8]uint64{7: 99}})
		line(t, "Yield, alone", w.k, 0, 5)
		w.follows(t, resume(1), tick(0))
	}
	line(t, "Yield with a lesser one", w.k, 0, 4, 1)

	// A greater one that was not picked runs then.
	w = crowd(t, api.Running)
	w.follows(t, prio(6, 6))
	w.does(t, yield(0), answer{is: true})
	runs(t, "Yield with a greater one", w.k, 0, 6, true)
	line(t, "Yield with a greater one", w.k, 0, 5, 0, 3, 2)
	w.is(t, 2, api.Thread{State: api.Ready, Prio: 5, Left: 5, Regs: [8]uint64{7: 99}})
}

// TestP104Nobody: where nobody runs it is no, and not even who is Ready is picked.
func TestP104Nobody(t *testing.T) {
	for _, state := range []int{api.Idle, api.Ready, api.Blocked} {
		for _, w := range []*pair{crowd(t, state), alone(t, state)} {
			was := w.p.copied()
			for range 6 {
				w.does(t, yield(0), answer{})
				w.does(t, tick(0), answer{})
				looks(t, "where nobody runs", w.k, was)
			}
		}
	}
}

// TestP104Tick: the tick ahead of the last one changes Left alone; the last one is as Yield.
func TestP104Tick(t *testing.T) {
	w := lined(t, 5, 5, 5)
	w.follows(t, pick(0))
	for turn := range 7 {
		for left := 4; left >= 1; left-- {
			w.does(t, tick(0), answer{is: true})
			w.is(t, turn%3, api.Thread{State: api.Running, Prio: 5, Left: left})
			line(t, "a tick", w.k, 0, 5, (turn+1)%3, (turn+2)%3)
		}
		w.does(t, tick(0), answer{is: true})
		w.is(t, turn%3, api.Thread{State: api.Ready, Prio: 5, Left: 5})
		runs(t, "the last tick", w.k, 0, (turn+1)%3, true)
		line(t, "the last tick", w.k, 0, 5, (turn+2)%3, turn%3)
	}
	w = alone(t, api.Running)
	for _, left := range []int{2, 1, 5, 4, 3, 2, 1, 5} {
		w.does(t, tick(0), answer{is: true})
		w.is(t, 2, api.Thread{State: api.Running, Prio: 5, Left: left, Regs: [8]uint64{7: 99}})
	}
	// A greater one waits for the last tick, if nobody picks.
	w = crowd(t, api.Running)
	w.follows(t, prio(3, 9))
	for range 2 {
		w.does(t, tick(0), answer{is: true})
		runs(t, "a greater one that was not picked", w.k, 0, 2, true)
	}
	w.does(t, tick(0), answer{is: true})
	runs(t, "a greater one behind the last tick", w.k, 0, 3, true)
	line(t, "a greater one behind the last tick", w.k, 0, 5, 0, 6, 2)
}

// TestP104TickAtOneCore: no other core's threads have fewer ticks for it.
func TestP104TickAtOneCore(t *testing.T) {
	w := crowd(t, api.Running)
	w.does(t, tick(1), answer{is: true})
	w.is(t, 4, api.Thread{State: api.Running, Prio: 5, Core: 1, Left: 4})
	w.is(t, 2, api.Thread{State: api.Running, Prio: 5, Left: 3, Regs: [8]uint64{7: 99}})
	w.does(t, tick(0), answer{is: true})
	w.does(t, tick(0), answer{is: true})
	w.is(t, 4, api.Thread{State: api.Running, Prio: 5, Core: 1, Left: 4})
	w.does(t, yield(0), answer{is: true})
	runs(t, "Yield at another core", w.k, 1, 4, true)
	w.does(t, yield(1), answer{is: true})
	runs(t, "Yield", w.k, 1, 5, true)
}

// TestP104LeftStays: what is left of a turn changes by Tick and Yield alone.
func TestP104LeftStays(t *testing.T) {
	for _, calls := range [][]call{
		{suspend(0), resume(0), pick(0)}, {block(0), resume(0), pick(0)}, {prio(0, 9), pick(0)}, {core(0, 1), pick(1), core(0, 0), pick(0)},
		{resume(1), pick(0), block(1), pick(0)}, {reg(0, 0, 0), core(0, 0)}, {suspend(0), prio(0, 9), core(0, 1), core(0, 0), resume(0), pick(0)},
	} {
		for used := 1; used <= 4; used++ {
			w := made(t, 5, 6)
			w.follows(t, resume(0), pick(0))
			w.follows(t, times(used, tick(0))...)
			w.follows(t, calls...)
			x, _ := w.k.Get(0)
			if x.State != api.Running || x.Left != 5-used {
				t.Errorf("%d ticks, %v: %+v", used, calls, x)
			}
		}
	}
}

func TestP105Line(t *testing.T) {
	w := fresh(t, 2)
	for id, x := range []struct{ prio, core int }{{0, 0}, {255, 1}, {5, 0}, {5, 1}, {255, 1}, {5, 0}, {5, 1}, {0, 0}} {
		w.follows(t, create(x.prio, x.core), resume(id))
	}
	line(t, "Line", w.k, 0, 0, 0, 7)
	line(t, "Line", w.k, 0, 5, 2, 5)
	line(t, "Line", w.k, 0, 255)
	line(t, "Line", w.k, 1, 255, 1, 4)
	line(t, "Line", w.k, 1, 5, 3, 6)
	line(t, "Line", w.k, 1, 0)
	for _, p := range append(from(256), -1) {
		line(t, "no priority", w.k, 0, p)
		line(t, "no priority", w.k, 1, p)
		line(t, "no priority, no core", w.k, 2, p)
	}
}

// overwrite puts other numbers into a list, and into the room behind it.
func overwrite(l []int) {
	l = l[:cap(l)]
	for i := range l {
		l[i] = -999 - i
	}
}

// TestLineIsNewMemory: what is done to a list that was told changes no threads, no copy and no other list; nor does a list change.
func TestLineIsNewMemory(t *testing.T) {
	for many := 1; many <= 9; many++ {
		w := lined(t, slices.Repeat([]int{5}, many)...)
		c := w.copied()
		kept, again := w.k.Line(0, 5), w.k.Line(0, 5)
		overwrite(again)
		overwrite(c.k.Line(0, 5))
		overwrite(append(w.k.Line(0, 6), 1, 2, 3))
		overwrite(append(w.k.Line(1, 5), 1, 2, 3))
		overwrite(append(w.k.Line(2, 5), 1, 2, 3))
		looks(t, "threads whose lines were changed outside", w.k, w.p)
		looks(t, "a copy whose lines were changed outside", c.k, c.p)
		w.follows(t, create(5, 0), pick(0), resume(many), yield(0), core(0, 1), prio(many, 6), pick(0))
		for id := range many {
			if kept[id] != id || len(kept) != many {
				t.Fatalf("a list of %d became %v", many, kept)
			}
		}
	}
}

// changes are calls of each kind that change crowd, in each state.
func changes(state int) []call {
	l := []call{create(5, 0), reg(2, 0, 9), reg(0, 7, 9), prio(2, 9), prio(6, 5), core(2, 1), core(0, 1), core(5, 0), suspend(0), suspend(4), block(4), resume(1), yield(1), tick(1)}
	return append(l, map[int][]call{
		api.Idle:    {resume(2), pick(0)},
		api.Ready:   {suspend(2), prio(2, 5), pick(0)},
		api.Running: {suspend(2), block(2), yield(0), tick(0)},
		api.Blocked: {resume(2), suspend(2), pick(0)},
	}[state]...)
}

// TestP105CopyGoesItsOwnWay: each change at the one leaves the other as it was; then both change.
func TestP105CopyGoesItsOwnWay(t *testing.T) {
	for _, state := range states {
		origin := crowd(t, state)
		for _, a := range changes(state) {
			for _, b := range changes(state) {
				w := origin.copied()
				c := w.copied()
				looks(t, "a copy", c.k, c.p)
				w.follows(t, a)
				looks(t, "a copy whose original was changed", c.k, c.p)
				c.follows(t, b)
				looks(t, "an original whose copy was changed", w.k, w.p)
				w.follows(t, create(200, 0), resume(7), pick(0))
				c.follows(t, create(100, 1), resume(7), pick(1))
				looks(t, "an original whose copy went on", w.k, w.p)
			}
		}
		looks(t, "what was copied", origin.k, origin.p)
	}
}

func TestP105CopyOfNone(t *testing.T) {
	for cores := 1; cores <= 8; cores++ {
		w := fresh(t, cores)
		c := w.copied()
		looks(t, "a copy of none", c.k, c.p)
		w.follows(t, create(5, cores-1), resume(0), pick(cores-1))
		looks(t, "a copy of none", c.k, c.p)
		c.fails(t, api.ErrArg, create(5, cores))
		c.does(t, create(7, 0), answer{n: 0})
		looks(t, "its original", w.k, w.p)
	}
}

// TestP106Turns: those of one priority that never wait run in turns of five ticks, one behind the other, whoever of a lesser one is ready too.
func TestP106Turns(t *testing.T) {
	for many := 1; many <= 6; many++ {
		w := lined(t, append(slices.Repeat([]int{5}, many), 4, 4)...)
		w.follows(t, pick(0))
		ran := make([]int, many+2)
		for range 3 * 5 * many {
			id, _ := w.k.Runs(0)
			ran[id]++
			w.follows(t, tick(0), pick(0))
		}
		for id := range many {
			if ran[id] != 15 {
				t.Errorf("of %d ran so many ticks: %v", many, ran)
			}
		}
	}
	// One of a greater priority comes between, and they go on in turns.
	w := lined(t, 5, 5, 5)
	w.follows(t, pick(0), create(6, 0))
	ran := make([]int, 4)
	for range 40 {
		w.follows(t, resume(3), pick(0), block(3), pick(0))
		id, _ := w.k.Runs(0)
		ran[id]++
		w.follows(t, tick(0))
	}
	if slices.Min(ran[:3]) == 0 || ran[3] != 0 {
		t.Errorf("so many ticks ran %v", ran)
	}
}

// right asks of threads alone whether nobody who is ready at a core has a greater priority than who runs there, and one runs if one is ready.
func right(t *testing.T, what string, k *threads.Threads, core int) {
	t.Helper()
	id, is := k.Runs(core)
	greatest := -1
	for prio := range 256 {
		if len(k.Line(core, prio)) > 0 {
			greatest = prio
		}
	}
	if x, _ := k.Get(id); greatest >= 0 && !is || is && x.Prio < greatest {
		t.Fatalf("%s: at core %d runs %d, %v, of %+v, and one is ready of %d", what, core, id, is, x, greatest)
	}
}

// text tells all that matters of threads: the order of who is ready, not since when.
func (p plain) text() string {
	out := ""
	for _, x := range p.list {
		out += fmt.Sprint(x.State, x.Prio, x.Core, x.Left, ";")
	}
	for core := range p.cores {
		for _, prio := range []int{4, 5} {
			out += fmt.Sprint(p.line(core, prio))
		}
	}
	return out
}

// all does these calls at every state that they come to, each at a copy of its own, and answers how many there are.
func all(t *testing.T, w *pair, calls []call) int {
	t.Helper()
	seen := map[string]int{w.p.text(): 1}
	for work := []*pair{w}; len(work) > 0; work = work[1:] {
		for _, c := range calls {
			next := work[0].copied()
			want := c.ofPlain(&next.p)
			if got := c.of(next.k); got != want {
				t.Fatalf("%v of %v answers %v, not %v", c, work[0].p.list, got, want)
			}
			sameAt(t, fmt.Sprint(c, " of ", work[0].p.list), next)
			if c.kind == "Pick" {
				right(t, "Pick", next.k, c.a)
			}
			to := next.p.text()
			if seen[to]++; seen[to] == 1 {
				looks(t, "a state that is new", next.k, next.p)
				work = append(work, next)
			}
		}
		sameAt(t, "threads whose copies were changed", work[0])
	}
	return len(seen)
}

// sameAt is as looks, of the priorities of all alone.
func sameAt(t *testing.T, what string, w *pair) {
	t.Helper()
	for id, x := range w.p.list {
		if got, e := w.k.Get(id); got != x.Thread || e != api.OK {
			t.Fatalf("%s: Get(%d) = %+v, %d, not %+v", what, id, got, e, x.Thread)
		}
	}
	for core := range w.p.cores {
		id, is := w.p.runs(core)
		runs(t, what, w.k, core, id, is)
		for _, prio := range []int{4, 5} {
			line(t, what, w.k, core, prio, w.p.line(core, prio)...)
		}
	}
}

// ofAll are all calls of so many threads, at so many cores, with wrong ones among them, but for Make, Reg and Tick.
func ofAll(many, cores int) []call {
	var l []call
	for id := range many + 1 {
		l = append(l, resume(id), suspend(id), block(id), prio(id, 4), prio(id, 5), prio(id, 256))
		for c := range cores + 1 {
			l = append(l, core(id, c))
		}
	}
	for c := range cores + 1 {
		l = append(l, pick(c), yield(c))
	}
	return l
}

// TestAllThree: every call at every state of three threads at one core.
func TestAllThree(t *testing.T) {
	w := fresh(t, 1)
	w.follows(t, create(4, 0), create(4, 0), create(5, 0))
	// k that are Ready stand in two lines in (k+1)! ways; each of the rest is Idle or Blocked, of one of two priorities.
	nobodyRuns := 64 + 3*16*2 + 3*4*6 + 24
	oneRuns := 3 * 2 * (16 + 2*4*2 + 6)
	if n := all(t, w, ofAll(3, 1)); n != nobodyRuns+oneRuns {
		t.Errorf("there are %d states, not %d", n, nobodyRuns+oneRuns)
	}
}

// TestAllTwo: every call, ticks too, at every state of two threads at two cores.
func TestAllTwo(t *testing.T) {
	w := fresh(t, 2)
	w.follows(t, create(4, 0), create(5, 1))
	// Each has a state, a priority, a core and ticks that are left; at one core only one runs, and two of a line stand in two orders.
	apart, bothRun, bothStand := (4*2*2*5)*(4*2*2*5), 2*2*2*25, 2*2*25
	if n := all(t, w, append(ofAll(2, 2), tick(0), tick(1), tick(2))); n != apart-bothRun+bothStand {
		t.Errorf("there are %d states, not %d", n, apart-bothRun+bothStand)
	}
}

// row is a row of numbers that is the same at every run.
type row uint64

func (r *row) next(n int) int {
	*r = *r*6364136223846793005 + 1442695040888963407
	return int(*r>>33) % n
}

// of is one of a list, most often; now and then one that is far.
func (r *row) of(l ...int) int {
	if r.next(12) == 0 {
		return far[r.next(len(far))]
	}
	return l[r.next(len(l))]
}

func (r *row) call(many, cores int) call {
	id, c, p := r.of(r.next(many+1), r.next(many)), r.of(r.next(cores+1), r.next(cores)), r.of(0, 4, 5, 5, 5, 6, 255, 256)
	switch r.next(14) {
	case 0:
		return create(p, c)
	case 1:
		return reg(id, r.of(0, 1, 2, 3, 4, 5, 6, 7, 8), uint64(r.next(1000)))
	case 2, 3, 4:
		return resume(id)
	case 5:
		return suspend(id)
	case 6:
		return block(id)
	case 7:
		return prio(id, p)
	case 8:
		return core(id, c)
	case 9, 10:
		return pick(c)
	case 11:
		return yield(c)
	}
	return tick(c)
}

// TestManyCalls: whatever calls were done, wrong ones among them, threads are as told, and copies of earlier stay.
func TestManyCalls(t *testing.T) {
	at := row(10)
	for cores := 1; cores <= 8; cores++ {
		w := fresh(t, cores)
		var earlier []*pair
		for step := range 500 {
			c := at.call(len(w.p.list)+1, cores)
			w.follows(t, c)
			if c.kind == "Pick" && c.a >= 0 && c.a < cores {
				right(t, fmt.Sprint(c), w.k, c.a)
			}
			if step%100 == 50 {
				earlier = append(earlier, w.copied())
			}
			if step%150 == 75 {
				// The copy goes on in its original's place: nothing may tell them apart.
				w = w.copied()
			}
		}
		for _, c := range earlier {
			looks(t, "a copy of earlier", c.k, c.p)
		}
	}
}

// TestOneAnswer: the same calls are answered the same at every run of them.
func TestOneAnswer(t *testing.T) {
	var first []answer
	for run := range 5 {
		at := row(77)
		k, _ := threads.New(3)
		var got []answer
		for range 1000 {
			got = append(got, at.call(20, 3).of(k))
		}
		if run == 0 {
			first = got
		}
		if !slices.Equal(got, first) {
			t.Fatal("another run answered otherwise")
		}
	}
}

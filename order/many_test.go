package order_test

import (
	"slices"
	"testing"

	"buttress/api"
	"buttress/machine"
	"buttress/order"
)

// TestAllShort: any of many things behind whatever may be of them, one behind the other.
func TestAllShort(t *testing.T) {
	some := api.Told{Wakes: -1, Forget: []api.Line{line(1)}}
	var all []api.Seen
	for core := range 3 {
		for n := range 2 {
			all = append(all, enter(core, n), did(core, n, nil0), did(core, n, some), left(core, n, nil0), left(core, n, some))
		}
		all = append(all, load(core, 0))
	}
	all = append(all, irq(1, 0), tick(0), enter(3, 0), tick(-1), api.Seen{Kind: api.Seens})
	many := 0
	var deeper func(l []api.Seen, depth int)
	deeper = func(l []api.Seen, depth int) {
		for _, x := range all {
			next := append(slices.Clone(l), x)
			many++
			if follows(t, 3, next).first >= 0 {
				follows(t, 3, append(next, all[many%len(all)], all[many%7]))
			} else if depth > 1 {
				deeper(next, depth-1)
			}
		}
	}
	deeper(nil, 5)
	if many < 20000 {
		t.Errorf("there were only %d", many)
	}
}

// row is a row of numbers that is the same at every run.
type row uint64

func (r *row) next(n int) int {
	*r = *r*6364136223846793005 + 1442695040888963407
	return int(*r>>33) % n
}

func (r *row) told() api.Told {
	x := api.Told{E: api.Errno(r.next(2)), W: uint64(r.next(2)), Wakes: r.next(2)}
	for range r.next(3) {
		x.Forget = append(x.Forget, line(r.next(2)))
	}
	return x
}

// right is one that may be behind others.
func (r *row) right(cores int, l []api.Seen) api.Seen {
	for {
		x := api.Seen{Kind: r.next(api.Seens), Core: r.next(cores), N: r.next(3), T: r.told()}
		if n := latest(l, x.Core, api.SeenEnter); n >= 0 && (x.Kind == api.SeenDid || x.Kind == api.SeenLeft) {
			x.N = l[n].N
		}
		if n := latest(l, x.Core, api.SeenDid); n >= 0 && x.Kind == api.SeenLeft {
			x.T = l[n].T
		}
		if plainMay(cores, l, x) {
			return x
		}
	}
}

// spoilt is a list with one thing changed, which then may not be, or may.
func (r *row) spoilt(l []api.Seen, cores int) []api.Seen {
	l = slices.Clone(l)
	at := r.next(len(l))
	x := &l[at]
	switch r.next(9) {
	case 0:
		return slices.Delete(l, at, at+1)
	case 1:
		return slices.Insert(l, at, *x)
	case 2:
		other := r.next(len(l))
		l[at], l[other] = l[other], l[at]
	case 3:
		x.Kind = r.next(api.Seens+2) - 1
	case 4:
		x.Core = r.next(cores+2) - 1
	case 5:
		x.N = r.next(3)
	case 6:
		x.T.Forget = append(slices.Clone(x.T.Forget), line(r.next(2)))
	case 7:
		x.T.W++
	case 8:
		x.T = r.told()
	}
	return l
}

// TestManyRight: whatever may be behind what may be, and whatever it is when one thing is changed.
func TestManyRight(t *testing.T) {
	r := row(20)
	waits := map[int]int{}
	at := map[int]int{}
	for round := range 160 {
		cores := 1 + round%8
		var l []api.Seen
		for range 40 {
			l = append(l, r.right(cores, l))
		}
		a := follows(t, cores, l)
		if a.first != -1 {
			t.Fatalf("%+v: First = %d", l, a.first)
		}
		waits[a.waits]++
		for range 20 {
			at[follows(t, cores, r.spoilt(l, cores)).first]++
		}
	}
	if len(waits) < 5 || len(at) < 38 {
		t.Errorf("others were waited for so many times: %v; those that may not be were at these places: %v", waits, at)
	}
}

// program is of a machine of so many cores: slots 0 node, 1 untyped, 2 .. threads, then a space.
func program(cores int) []api.Call {
	space := 2 + cores
	return []api.Call{
		{Ask: api.AskRetype, At: 1, With: 30, A: api.CapTable, C: 1}, {Ask: api.AskRetype, At: 1, With: 31, A: api.CapFrame, C: 1},
		{Ask: api.AskRetype, At: 1, With: 35, A: api.CapNotify, C: 1}, {Ask: api.AskTable, At: 30, With: space},
		{Ask: api.AskMap, At: 31, With: space, A: 3, B: 7}, {Ask: api.AskMap, At: 31, With: space, A: 4, B: 1},
		{Ask: api.AskBind, At: space + 1, With: 35}, {Ask: api.AskDelete, At: 31}, {Ask: api.AskDelete, At: 30}, {Ask: api.AskUnmap, At: space, A: 3}, {Ask: api.AskUnmap, At: space, A: 4},
		{Ask: api.AskSignal, At: 35, A: 1}, {Ask: api.AskWait, At: 35}, {Ask: api.AskAck, At: space + 1}, {Ask: api.AskYield}, {Ask: -1},
	}
}

// item is one that may be in a script of so many cores.
func (r *row) item(cores, calls int) api.Item {
	x := api.Item{Core: r.next(cores)}
	switch n := r.next(20); {
	case n < 5:
		x.Kind, x.A = api.ItemUser, r.next(calls)
	case n < 7:
		x.Kind, x.A, x.B = api.ItemUser, 3+r.next(2), 1
	case n == 7:
		x.Kind = api.ItemIrq
	case n == 8:
		x.Kind = api.ItemTick
	}
	return x
}

func machineOf(t *testing.T, cores int) (*machine.Machine, []api.Call) {
	t.Helper()
	b := api.Booted{Cores: cores, Bits: 14, Lines: 1, Prios: make([]int, cores)}
	l := program(cores)
	m, e := machine.New(b, l, 2)
	if e != api.OK {
		t.Fatalf("New of %+v = %d", b, e)
	}
	return m, l
}

// TestP203: what a machine shows may be, whatever its script; who stands in line is who stands in the machine's.
func TestP203(t *testing.T) {
	r := row(203)
	kinds, waits, forgot, held := map[int]int{}, 0, 0, 0
	for round := range 64 {
		cores := 1 + round%8
		m, program := machineOf(t, cores)
		var l []api.Seen
		for n := range 1200 {
			s, is := m.Step(r.item(cores, len(program)))
			if is {
				l = append(l, s)
				kinds[s.Kind]++
				forgot += len(s.T.Forget)
			}
			if n%100 > 0 {
				continue
			}
			if first, line := order.First(cores, l), order.Line(cores, l); first != -1 || !slices.Equal(line, m.Line()) {
				t.Fatalf("of %d cores, %+v: First = %d, Line = %v, not %v", cores, l, first, line, m.Line())
			}
			held += len(m.Line())
		}
		w := order.Waits(cores, l)
		if w >= cores {
			t.Fatalf("of %d cores, %+v: Waits = %d", cores, l, w)
		}
		waits += w
		follows(t, cores, l[:min(len(l), 100)])
		for range 20 {
			follows(t, cores, r.spoilt(l[:min(len(l), 60)], cores))
		}
	}
	for kind := range api.Seens {
		if kinds[kind] < 400 {
			t.Errorf("there were seen only %d of the kind %d", kinds[kind], kind)
		}
	}
	if waits < 100 || forgot < 60 || held < 500 {
		t.Errorf("there were waited for %d, forgotten %d, in line %d", waits, forgot, held)
	}
}

// TestP203Turns: when all cores go on in turns, each call that was begun is over, and the last one waited for all others.
func TestP203Turns(t *testing.T) {
	for cores := 1; cores <= 8; cores++ {
		m, program := machineOf(t, cores)
		var l []api.Seen
		var calls []int
		does := func(x api.Item) {
			if s, is := m.Step(x); is {
				l = append(l, s)
			}
		}
		for core := range cores {
			n := (core * 3) % len(program)
			does(api.Item{Kind: api.ItemUser, Core: core, A: n})
			calls = append(calls, n)
		}
		for range 3 * cores {
			for core := range cores {
				does(api.Item{Core: core})
			}
		}
		tells(t, cores, l, answers{-1, nil, calls, cores - 1})
	}
}

// TestOneAnswer: R5: the same things are answered the same at every run.
func TestOneAnswer(t *testing.T) {
	r := row(5)
	for range 20 {
		var l []api.Seen
		for range 60 {
			l = append(l, r.right(8, l))
		}
		first := asked(8, l)
		for range 10 {
			tells(t, 8, l, first)
		}
	}
}

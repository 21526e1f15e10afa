package machine_test

import (
	"fmt"
	"math"
	"slices"
	"strings"
	"testing"

	"buttress/api"
	"buttress/kernel"
	"buttress/machine"
)

// far are no numbers of cores, nor of what an item may have; many have the lowest bits of one that is.
var far = []int{math.MinInt, math.MinInt + 1, -1 << 32, -257, -256, -8, -2, -1, 256, 257, 258, 512, 1 << 16, 1 << 32, 1<<32 + 1, math.MaxInt - 1, math.MaxInt}

func step(core int) api.Item       { return api.Item{Core: core} }
func wants(core, n int) api.Item   { return api.Item{Kind: api.ItemUser, Core: core, A: n} }
func load(core, page int) api.Item { return api.Item{Kind: api.ItemUser, Core: core, A: page, B: 1} }
func irq(core, line int) api.Item  { return api.Item{Kind: api.ItemIrq, Core: core, A: line} }
func tick(core int) api.Item       { return api.Item{Kind: api.ItemTick, Core: core} }

// whole is a call from its beginning to its end, where nobody else is in line, and nobody has to hear of it.
func whole(core, n int) []api.Item {
	return []api.Item{wants(core, n), step(core), step(core), step(core)}
}

func steps(cores ...int) []api.Item {
	var l []api.Item
	for _, c := range cores {
		l = append(l, step(c))
	}
	return l
}

// Numbers of calls of the program that follows.
const (
	makeFrames = iota
	makeTable
	putTable
	lay3
	lay4
	unmap3
	unmap4
	dropFrame
	dropTable
	dropAll
	makeNote
	bindLine
	ackLine
	waitNote
	giveUp
	yields
	noCall
	calls
)

// program is of a machine of two cores: slots 0 node, 1 untyped, 2 and 3 threads 0 and 1, 4 space, 5 line.
func program() []api.Call {
	return []api.Call{
		makeFrames: {Ask: api.AskRetype, At: 1, With: 20, A: api.CapFrame, C: 2},
		makeTable:  {Ask: api.AskRetype, At: 1, With: 22, A: api.CapTable, C: 1},
		putTable:   {Ask: api.AskTable, At: 22, With: 4},
		lay3:       {Ask: api.AskMap, At: 20, With: 4, A: 3, B: 7},
		lay4:       {Ask: api.AskMap, At: 21, With: 4, A: 4, B: 1},
		unmap3:     {Ask: api.AskUnmap, At: 4, A: 3},
		unmap4:     {Ask: api.AskUnmap, At: 4, A: 4},
		dropFrame:  {Ask: api.AskDelete, At: 20},
		dropTable:  {Ask: api.AskDelete, At: 22},
		dropAll:    {Ask: api.AskRevoke, At: 1},
		makeNote:   {Ask: api.AskRetype, At: 1, With: 23, A: api.CapNotify, C: 1},
		bindLine:   {Ask: api.AskBind, At: 5, With: 23},
		ackLine:    {Ask: api.AskAck, At: 5},
		waitNote:   {Ask: api.AskWait, At: 23, C: 1},
		giveUp:     {Ask: api.AskSuspend, At: 3},
		yields:     {Ask: api.AskYield},
		noCall:     {Ask: -1},
	}
}

var booted = api.Booted{Cores: 2, Bits: 12, Lines: 1, Prios: []int{5, 6}}

// pair is a machine, and what it should be.
type pair struct {
	m *machine.Machine
	p *plain
}

func fresh(t *testing.T, b api.Booted, program []api.Call, room int) *pair {
	t.Helper()
	m, e := machine.New(b, program, room)
	if e != api.OK {
		t.Fatalf("New(%+v, .., %d) = %d", b, room, e)
	}
	w := &pair{m, begun(b, program, room)}
	w.looks(t, fmt.Sprint("New ", b))
	return w
}

// furnished has two cores, with pages 3 and 4 mapped, that nobody remembers.
func furnished(t *testing.T) *pair {
	t.Helper()
	w := fresh(t, booted, program(), 2)
	for _, n := range []int{makeFrames, makeTable, putTable, lay3, lay4, makeNote, bindLine} {
		w.does(t, 0, n)
	}
	return w
}

func (w *pair) copied() *pair { return &pair{w.m.Copy(), w.p.copied()} }

func (w *pair) looks(t *testing.T, what string) {
	t.Helper()
	cores := len(w.p.cores)
	if got, want := text(w.m, cores), text(shown{w.p}, cores); got != want {
		t.Fatalf("%s: the machine tells\n%s\nnot\n%s", what, got, want)
	}
}

// follows does items at both, and holds them to each other behind each.
func (w *pair) follows(t *testing.T, items ...api.Item) {
	t.Helper()
	for _, x := range items {
		want, seen := w.p.step(x)
		if got, is := w.m.Step(x); is != seen || !same(got, want) {
			t.Fatalf("of %+v there is seen %+v, %v, not %+v, %v; then there is\n%s", x, got, is, want, seen, text(shown{w.p}, len(w.p.cores)))
		}
		w.looks(t, fmt.Sprintf("%+v", x))
	}
}

// does lets a core do a whole call, which may not fail.
func (w *pair) does(t *testing.T, core, n int) {
	t.Helper()
	c := w.m.Copy()
	c.Step(wants(core, n))
	c.Step(step(core))
	if did, is := c.Step(step(core)); !is || did.Kind != api.SeenDid || did.T.E != api.OK {
		t.Fatalf("the call %d at core %d: %+v, %v", n, core, did, is)
	}
	w.follows(t, whole(core, n)...)
}

// sees holds what is seen of some items to what is told here, beside what follows holds it to.
func (w *pair) sees(t *testing.T, items []api.Item, want ...api.Seen) {
	t.Helper()
	c := w.m.Copy()
	var got []api.Seen
	for _, x := range items {
		if s, is := c.Step(x); is {
			got = append(got, s)
		}
	}
	if !slices.EqualFunc(got, want, same) {
		t.Fatalf("of %+v there is seen\n%+v\nnot\n%+v", items, got, want)
	}
	w.follows(t, items...)
}

// stays holds some items to change nothing, and to let nothing be seen.
func (w *pair) stays(t *testing.T, items ...api.Item) {
	t.Helper()
	was := w.p.copied()
	for _, x := range items {
		if s, is := w.m.Step(x); is || !same(s, api.Seen{}) {
			t.Fatalf("of %+v there is seen %+v, %v", x, s, is)
		}
		(&pair{w.m, was}).looks(t, fmt.Sprintf("%+v", x))
	}
	(&pair{w.m.Copy(), was.copied()}).goesOn(t)
}

// goesOn lets all cores go on in turns, until whatever was begun is over.
func (w *pair) goesOn(t *testing.T) {
	t.Helper()
	for range 400 {
		over := true
		for core := range w.p.cores {
			w.follows(t, step(core))
			does, _ := w.m.Core(core)
			over = over && does == api.Using && w.p.letters(-1, core) == 0
		}
		if over {
			return
		}
	}
	t.Fatalf("it is not over\n%s", text(w.m, len(w.p.cores)))
}

func enter(core, n int) api.Seen { return api.Seen{Kind: api.SeenEnter, Core: core, N: n} }

func did(core, n int, told api.Told) api.Seen {
	return api.Seen{Kind: api.SeenDid, Core: core, N: n, T: told}
}

func left(core, n int, told api.Told) api.Seen {
	return api.Seen{Kind: api.SeenLeft, Core: core, N: n, T: told}
}

func loaded(core, page, frame, rights int) api.Seen {
	return api.Seen{Kind: api.SeenLoad, Core: core, N: page, P: api.Page{Frame: frame, Rights: rights}, Is: true}
}

func ticked(core int, is bool) api.Seen {
	return api.Seen{Kind: api.SeenTick, Core: core, Is: is}
}

func raised(core, line, wakes int, e api.Errno) api.Seen {
	return api.Seen{Kind: api.SeenIrq, Core: core, N: line, T: api.Told{Wakes: wakes, E: e}}
}

func told(e api.Errno, forget ...api.Line) api.Told {
	return api.Told{E: e, Wakes: -1, Forget: forget}
}

// Lines that are of the pages 3 and 4.
var (
	line3 = api.Line{Page: 3, P: api.Page{Frame: 0, Rights: 7}}
	line4 = api.Line{Page: 4, P: api.Page{Frame: 1, Rights: 1}}
)

func TestExamples(t *testing.T) {
	b := api.Booted{Cores: 1, Bits: 10, Prios: []int{1}}
	w := fresh(t, b, []api.Call{{Ask: api.AskYield}}, 1)
	w.sees(t, whole(0, 0), enter(0, 0), did(0, 0, told(api.OK)), left(0, 0, told(api.OK)))
}

func TestP191New(t *testing.T) {
	for cores := 1; cores <= 8; cores++ {
		for _, room := range []int{1, 2, 255, 256} {
			b := api.Booted{Cores: cores, Bits: 10, Lines: cores, Prios: make([]int, cores)}
			w := fresh(t, b, nil, room)
			for n := range cores {
				if does, is := w.m.Core(n); does != api.Using || !is || len(w.m.Lines(n)) != 0 || w.m.Owed(n) != 0 {
					t.Errorf("a new one's core %d: %d, %v", n, does, is)
				}
			}
			if k, _ := kernel.Boot(b); !slices.Equal(w.m.Held(), k.Held()) || len(w.m.Line()) != 0 || len(w.m.Pages(0)) != 0 {
				t.Errorf("a new one tells\n%s", text(w.m, cores))
			}
		}
	}
}

func TestP191Errors(t *testing.T) {
	refused := func(b api.Booted, room int) {
		t.Helper()
		if m, e := machine.New(b, program(), room); m != nil || e != api.ErrArg {
			t.Errorf("New(%+v, .., %d) = %v, %d", b, room, m, e)
		}
	}
	for _, b := range []api.Booted{
		{},
		{Cores: 0, Bits: 10, Prios: nil},
		{Cores: -1, Bits: 10, Prios: nil},
		{Cores: 9, Bits: 10, Prios: make([]int, 9)},
		{Cores: 1, Bits: 3, Prios: []int{1}},
		{Cores: 1, Bits: 21, Prios: []int{1}},
		{Cores: 1, Bits: 10, Lines: -1, Prios: []int{1}},
		{Cores: 1, Bits: 10, Lines: 9, Prios: []int{1}},
		{Cores: 1, Bits: 10, Prios: []int{1, 2}},
		{Cores: 2, Bits: 10, Prios: []int{1}},
		{Cores: 2, Bits: 10, Prios: []int{1, 256}},
		{Cores: 2, Bits: 10, Prios: []int{-1, 2}},
	} {
		for _, room := range []int{1, 256, 0} {
			refused(b, room)
		}
	}
	for _, room := range append([]int{0}, far...) {
		if room != 256 {
			refused(booted, room)
		}
	}
}

// TestP191Room: each core's TLB has so much room.
func TestP191Room(t *testing.T) {
	for room := 1; room <= 4; room++ {
		w := fresh(t, api.Booted{Cores: 2, Bits: 12, Prios: []int{1, 1}}, laid(3), room)
		for n := range laid(3) {
			w.does(t, 0, n)
		}
		w.follows(t, load(0, 2), load(0, 0), load(0, 1), load(1, 1))
		if many := len(w.m.Lines(0)); many != min(3, room) || len(w.m.Lines(1)) != 1 {
			t.Errorf("with room for %d there are %d", room, many)
		}
		// What is looked at again stays as old as it is.
		w.follows(t, load(0, 0), load(0, 2), load(0, 1))
	}
}

// laid is of two cores: it lays a frame into so many pages of space 0, from page 0 on.
func laid(pages int) []api.Call {
	l := []api.Call{{Ask: api.AskRetype, At: 1, With: 20, A: api.CapFrame, C: 1}, {Ask: api.AskRetype, At: 1, With: 21, A: api.CapTable, C: (pages + 63) / 64}}
	for i := range (pages + 63) / 64 {
		l = append(l, api.Call{Ask: api.AskTable, At: 21 + i, With: 4, A: i})
	}
	for page := range pages {
		l = append(l, api.Call{Ask: api.AskMap, At: 20, With: 4, A: page, B: 3})
	}
	return l
}

// TestNotRight: what is no right item changes nothing.
func TestNotRight(t *testing.T) {
	w := furnished(t)
	w.follows(t, load(0, 3), load(1, 4), wants(0, unmap4), step(0), step(0), wants(1, yields))
	for range 2 {
		for _, n := range append([]int{2, 3, 7, 8, 64, 255}, far...) {
			for kind := range api.ItemKinds {
				w.stays(t, api.Item{Kind: kind, Core: n}, api.Item{Kind: kind, Core: n, B: 1})
			}
		}
		for _, n := range far {
			for kind := range api.ItemKinds {
				w.stays(t, api.Item{Kind: kind, Core: 1, A: n}, api.Item{Kind: kind, Core: 1, A: 3, B: n})
			}
		}
		for _, kind := range append([]int{4, 5, 255}, far...) {
			w.stays(t, api.Item{Kind: kind, Core: 1}, api.Item{Kind: kind, Core: 1, A: 3, B: 1})
		}
		// Once more, where nobody holds the lock.
		w.goesOn(t)
	}
}

func TestP192Wants(t *testing.T) {
	w := furnished(t)
	for _, n := range []int{calls, calls + 1, 254, 255} {
		w.stays(t, wants(0, n), wants(1, n))
	}
	for n := range calls {
		c := w.copied()
		c.sees(t, []api.Item{wants(1, n)})
		if does, _ := c.m.Core(1); does != api.Wanting {
			t.Errorf("it does %d", does)
		}
		if does, _ := c.m.Core(0); does != api.Using {
			t.Errorf("the other one does %d", does)
		}
		// Who wants one wants no other one, and looks at nothing.
		c.stays(t, wants(1, yields), wants(1, calls), load(1, 3), load(1, 9))
		c.sees(t, steps(0, 1, 0), enter(1, n))
		c.stays(t, wants(1, yields), load(1, 3))
		c.follows(t, step(1))
		c.stays(t, wants(1, yields), load(1, 3))
		c.goesOn(t)
		c.sees(t, []api.Item{wants(1, noCall), step(1), step(1)}, enter(1, noCall), did(1, noCall, c.p.copied().k.Do(1, program()[noCall])))
	}
}

// TestP192All: a program of 256 calls has one of each number.
func TestP192All(t *testing.T) {
	var all []api.Call
	for n := range 300 {
		all = append(all, api.Call{Ask: api.AskPrio, At: 2, A: n % 256})
	}
	w := fresh(t, api.Booted{Cores: 1, Bits: 10, Prios: []int{1}}, all, 1)
	for _, n := range []int{0, 1, 127, 128, 254, 255} {
		w.sees(t, whole(0, n), enter(0, n), did(0, n, told(api.OK)), left(0, n, told(api.OK)))
	}
	w.stays(t, wants(0, 256))
}

func TestP192Load(t *testing.T) {
	w := furnished(t)
	w.sees(t, []api.Item{load(0, 3)}, loaded(0, 3, 0, 7))
	if !slices.Equal(w.m.Lines(0), []api.Line{line3}) || len(w.m.Lines(1)) != 0 {
		t.Errorf("there is\n%s", text(w.m, 2))
	}
	w.sees(t, []api.Item{load(1, 4), load(1, 3), load(0, 3)}, loaded(1, 4, 1, 1), loaded(1, 3, 0, 7), loaded(0, 3, 0, 7))
	if !slices.Equal(w.m.Lines(1), []api.Line{line4, line3}) {
		t.Errorf("there is\n%s", text(w.m, 2))
	}
	for _, page := range []int{0, 2, 5, 63, 64, 67, 255} {
		w.sees(t, []api.Item{load(0, page)}, api.Seen{Kind: api.SeenLoad, N: page})
		w.sees(t, []api.Item{load(1, page)}, api.Seen{Kind: api.SeenLoad, Core: 1, N: page})
	}
	for _, b := range []int{1, 2, 128, 255} {
		w.sees(t, []api.Item{{Kind: api.ItemUser, Core: 1, A: 3, B: b}}, loaded(1, 3, 0, 7))
	}
	// Of a page that nobody remembers what it is now is told, of one that is remembered what it was.
	w.follows(t, wants(0, unmap3), step(0), step(0))
	w.sees(t, []api.Item{load(1, 3), load(1, 4)}, loaded(1, 3, 0, 7), loaded(1, 4, 1, 1))
	w.follows(t, step(1))
	w.sees(t, []api.Item{load(1, 3)}, api.Seen{Kind: api.SeenLoad, Core: 1, N: 3})
}

// TestP192Space: users look at space 0 alone.
func TestP192Space(t *testing.T) {
	elsewhere := []api.Call{
		{Ask: api.AskRetype, At: 1, With: 20, A: api.CapSpace, C: 1}, {Ask: api.AskRetype, At: 1, With: 21, A: api.CapTable, C: 2}, {Ask: api.AskRetype, At: 1, With: 23, A: api.CapFrame, C: 2},
		{Ask: api.AskTable, At: 21, With: 20, A: 0}, {Ask: api.AskMap, At: 24, With: 20, A: 3, B: 7},
		{Ask: api.AskTable, At: 22, With: 4, A: 0}, {Ask: api.AskMap, At: 23, With: 4, A: 3, B: 5}, {Ask: api.AskUnmap, At: 20, A: 3}, {Ask: api.AskUnmap, At: 4, A: 3},
	}
	w := fresh(t, booted, elsewhere, 3)
	for n := range 6 {
		w.does(t, 0, n)
		w.sees(t, []api.Item{load(0, 3)}, api.Seen{Kind: api.SeenLoad, N: 3})
	}
	w.does(t, 0, 6)
	w.sees(t, []api.Item{load(0, 3), load(1, 3)}, loaded(0, 3, 0, 5), loaded(1, 3, 0, 5))
	// What goes from space 1 is remembered of space 0 yet.
	w.follows(t, wants(0, 7), step(0), step(0), step(1), step(0))
	of0 := api.Line{Page: 3, P: api.Page{Rights: 5}}
	if !slices.Equal(w.m.Lines(0), []api.Line{of0}) || !slices.Equal(w.m.Lines(1), []api.Line{of0}) {
		t.Errorf("there is\n%s", text(w.m, 2))
	}
	w.follows(t, wants(1, 8), step(1), step(1), step(0), step(1))
	if len(w.m.Lines(0)) != 0 || len(w.m.Lines(1)) != 0 {
		t.Errorf("there is\n%s", text(w.m, 2))
	}
}

func TestP192Step(t *testing.T) {
	w := furnished(t)
	w.stays(t, step(0), step(1))
	w.follows(t, load(0, 3), load(1, 3), load(1, 4))
	w.sees(t, []api.Item{wants(0, unmap3), wants(1, lay3), step(1), step(0)}, enter(1, lay3), enter(0, unmap3))
	if !slices.Equal(w.m.Line(), []int{1, 0}) {
		t.Errorf("there stand %v in line", w.m.Line())
	}
	// The second one waits for the first one.
	w.stays(t, step(0), step(0))
	full := told(api.ErrTablesFull)
	w.sees(t, steps(1), did(1, lay3, full))
	if does, _ := w.m.Core(1); does != api.Waiting {
		t.Errorf("it does %d", does)
	}
	w.stays(t, step(0))
	w.sees(t, steps(1), left(1, lay3, full))
	gone := told(api.OK, line3)
	w.sees(t, steps(1, 0, 0), did(0, unmap3, gone))
	if len(w.m.Lines(0)) != 0 || !slices.Equal(w.m.Lines(1), []api.Line{line3, line4}) || w.m.Owed(0) != 1 || w.m.Owed(1) != 0 {
		t.Errorf("there is\n%s", text(w.m, 2))
	}
	w.stays(t, step(0), step(0))
	w.sees(t, steps(1, 0), left(0, unmap3, gone))
	if !slices.Equal(w.m.Lines(1), []api.Line{line4}) || w.m.Owed(0) != 0 || len(w.m.Line()) != 0 {
		t.Errorf("there is\n%s", text(w.m, 2))
	}
	w.stays(t, step(0), step(1))
}

// TestP192Hear: a core hears ahead of all else that it does, of one page a step, in order.
func TestP192Hear(t *testing.T) {
	w := furnished(t)
	w.follows(t, load(1, 3), load(1, 4), wants(0, dropTable), step(0))
	for _, before := range [][]api.Item{nil, {wants(1, yields)}, {wants(1, yields), step(1)}} {
		c := w.copied()
		c.follows(t, before...)
		c.sees(t, steps(0), did(0, dropTable, told(api.OK, line3, line4)))
		c.sees(t, steps(1))
		if !slices.Equal(c.m.Lines(1), []api.Line{line4}) || c.m.Owed(0) != 1 {
			t.Errorf("there is\n%s", text(c.m, 2))
		}
		c.sees(t, steps(0, 1))
		c.sees(t, steps(0), left(0, dropTable, told(api.OK, line3, line4)))
		c.goesOn(t)
	}
}

// TestP192Others: all others hear, whatever they do, and a call is not over before the last one has.
func TestP192Others(t *testing.T) {
	many := api.Booted{Cores: 4, Bits: 12, Prios: []int{1, 2, 3, 4}}
	l := laid(2)
	for i := range l {
		if l[i].With == 4 {
			l[i].With = 6
		}
	}
	l = append(l, api.Call{Ask: api.AskUnmap, At: 6, A: 1}, api.Call{Ask: api.AskYield})
	w := fresh(t, many, l, 3)
	for n := range 5 {
		w.does(t, n%4, n)
	}
	for core := range 4 {
		w.follows(t, load(core, 0), load(core, 1))
	}
	w.follows(t, wants(2, 5), step(2), wants(0, 6), wants(1, 6), step(1), step(2))
	if w.m.Owed(2) != 3 {
		t.Fatalf("there are %d that have not heard", w.m.Owed(2))
	}
	for i, core := range []int{3, 1, 0} {
		w.stays(t, step(2))
		w.sees(t, steps(core))
		if w.m.Owed(2) != 2-i || len(w.m.Lines(core)) != 1 {
			t.Fatalf("there is\n%s", text(w.m, 4))
		}
	}
	w.sees(t, steps(2), left(2, 5, told(api.OK, api.Line{Page: 1, P: api.Page{Rights: 3}})))
	w.goesOn(t)
}

// TestP192Nobody: a call at a core at which nobody runs is over with an error.
func TestP192Nobody(t *testing.T) {
	w := furnished(t)
	w.does(t, 0, giveUp)
	none := told(api.ErrKernelState)
	w.sees(t, whole(1, lay3), enter(1, lay3), did(1, lay3, none), left(1, lay3, none))
	w.sees(t, []api.Item{tick(1), tick(0)}, ticked(1, false), ticked(0, true))
}

// TestP192Told: what a call was told is told again when it is over.
func TestP192Told(t *testing.T) {
	w := furnished(t)
	all := api.Told{W: 4, Wakes: -1, Forget: []api.Line{line3, line4}}
	w.sees(t, []api.Item{wants(1, dropAll), step(1), step(1), step(0), step(0), step(1)}, enter(1, dropAll), did(1, dropAll, all), left(1, dropAll, all))
	w = furnished(t)
	w.does(t, 0, waitNote)
	w.sees(t, []api.Item{irq(1, 0)}, raised(1, 0, 0, api.OK))
	w.sees(t, whole(1, ackLine), enter(1, ackLine), did(1, ackLine, told(api.OK)), left(1, ackLine, told(api.OK)))
	w.does(t, 0, waitNote)
	w.follows(t, irq(0, 0))
	w.does(t, 0, waitNote)
	w.follows(t, irq(0, 0))
	woke := api.Told{Wakes: 0}
	w.sees(t, whole(1, ackLine), enter(1, ackLine), did(1, ackLine, woke), left(1, ackLine, woke))
}

func TestP192Irq(t *testing.T) {
	w := furnished(t)
	for _, n := range []int{1, 2, 7} {
		w.sees(t, []api.Item{irq(1, n)}, raised(1, n, -1, api.OK))
	}
	for _, n := range []int{8, 9, 64, 255} {
		w.sees(t, []api.Item{irq(0, n), {Kind: api.ItemIrq, Core: 1, A: n, B: 9}}, raised(0, n, -1, api.ErrIrqNone), raised(1, n, -1, api.ErrIrqNone))
	}
	w.does(t, 0, waitNote)
	w.sees(t, []api.Item{irq(1, 0), irq(1, 0)}, raised(1, 0, 0, api.OK), raised(1, 0, -1, api.OK))
}

func TestP192Tick(t *testing.T) {
	w := furnished(t)
	for range 6 {
		w.sees(t, []api.Item{tick(0), {Kind: api.ItemTick, Core: 1, A: 7, B: 255}}, ticked(0, true), ticked(1, true))
	}
	w.does(t, 0, waitNote)
	w.sees(t, []api.Item{tick(0), tick(1)}, ticked(0, false), ticked(1, true))
}

// TestP192Ticks: it is this core's tick, so that after five of them another one of the same priority runs there.
func TestP192Ticks(t *testing.T) {
	l := []api.Call{{Ask: api.AskRetype, At: 1, With: 20, A: api.CapThread, C: 1}, {Ask: api.AskPrio, At: 20, A: 6}, {Ask: api.AskResume, At: 20}, {Ask: api.AskSuspend, At: 3}, {Ask: api.AskYield}}
	for _, ticks := range []int{0, 4, 5} {
		w := fresh(t, booted, l, 1)
		for n := range 3 {
			w.follows(t, whole(1, n)...)
		}
		for range ticks {
			w.follows(t, tick(1), tick(0))
		}
		// Whether who runs was suspended, or who stands ready, the other one goes on: what else there is is told by ticks.
		w.does(t, 0, 3)
		w.follows(t, tick(1))
		w.does(t, 1, 4)
		w.follows(t, tick(1))
	}
}

// TestP192Held: no line is raised, and no tick passes, while somebody holds the lock.
func TestP192Held(t *testing.T) {
	w := furnished(t)
	w.follows(t, load(1, 3), wants(0, unmap3))
	w.sees(t, []api.Item{tick(0), tick(1), irq(1, 9)}, ticked(0, true), ticked(1, true), raised(1, 9, -1, api.ErrIrqNone))
	for range 3 {
		w.follows(t, step(0))
		for core := range 2 {
			w.stays(t, tick(core), irq(core, 0), irq(core, 9))
		}
	}
	w.follows(t, step(1), step(0))
	w.sees(t, []api.Item{tick(0), tick(1), irq(1, 9)}, ticked(0, true), ticked(1, true), raised(1, 9, -1, api.ErrIrqNone))
}

func TestP193(t *testing.T) {
	w := furnished(t)
	w.follows(t, load(0, 3), load(1, 3), load(1, 4), wants(0, unmap3), step(0), step(0), wants(1, yields), step(1))
	if does, is := w.m.Core(0); does != api.Waiting || !is {
		t.Errorf("Core(0) = %d, %v", does, is)
	}
	if does, is := w.m.Core(1); does != api.Wanting || !is {
		t.Errorf("Core(1) = %d, %v", does, is)
	}
	for _, n := range append([]int{2, 3, 7, 8}, far...) {
		if does, is := w.m.Core(n); does != 0 || is || len(w.m.Lines(n)) != 0 || w.m.Owed(n) != 0 {
			t.Errorf("Core(%d) = %d, %v; Lines: %v; Owed: %d", n, does, is, w.m.Lines(n), w.m.Owed(n))
		}
	}
	for _, n := range append([]int{1, 2, 64}, far...) {
		if len(w.m.Pages(n)) != 0 {
			t.Errorf("Pages(%d) = %v", n, w.m.Pages(n))
		}
	}
	if !slices.Equal(w.m.Pages(0), []api.Laid{{At: 4, P: line4.P}}) {
		t.Errorf("Pages(0) = %v", w.m.Pages(0))
	}
	// 7 that it was booted with, 2 frames, a table, a notification.
	if held := w.m.Held(); len(held) != 10 || held[9] != (api.Held{At: api.Slot{I: 23}, C: api.Cap{Kind: api.CapNotify, Rights: api.All}}) {
		t.Errorf("Held() = %v", held)
	}
}

// TestP193Copy: a copy tells what its original tells, and goes its own way, whatever was begun.
func TestP193Copy(t *testing.T) {
	w := furnished(t)
	script := slices.Concat(
		[]api.Item{load(0, 3), load(1, 4), load(1, 3), wants(0, unmap3), wants(1, unmap4)}, steps(1, 0, 1, 0, 1, 0, 0, 1, 1, 0),
		[]api.Item{irq(0, 0), tick(1), wants(0, lay3)}, steps(0, 0, 0), []api.Item{load(1, 3), wants(1, dropAll), wants(0, yields)}, steps(0, 1, 0, 0, 1, 1, 0, 1, 0, 1))
	var earlier []*pair
	for _, x := range script {
		earlier = append(earlier, w.copied())
		w.follows(t, x)
		w.copied().goesOn(t)
	}
	for i, c := range earlier {
		c.looks(t, "a copy of earlier")
		c.follows(t, script[i:]...)
		c.goesOn(t)
	}
	w.looks(t, "the original")
}

// TestKept: R4: neither the lists that are handed in nor those that are answered are the machine's.
func TestKept(t *testing.T) {
	b := api.Booted{Cores: 2, Bits: 12, Lines: 1, Prios: []int{5, 6}}
	l := append(program(), api.Call{Ask: 99})[:calls]
	m, _ := machine.New(b, l, 2)
	if !slices.Equal(l, program()) || l[:calls+1][calls].Ask != 99 || !slices.Equal(b.Prios, []int{5, 6}) {
		t.Error("what is handed in is another one")
	}
	w := &pair{m, begun(booted, program(), 2)}
	b.Prios[0] = 9
	clear(l[:calls+1])
	for _, n := range []int{makeFrames, makeTable, putTable, lay3, lay4} {
		w.does(t, 0, n)
	}
	w.follows(t, load(0, 3), load(0, 4), load(1, 3), wants(1, dropAll), step(1), wants(0, yields), step(0))
	spoil(w.m.Line())
	spoil(w.m.Lines(0))
	spoil(w.m.Held())
	spoil(w.m.Pages(0))
	w.looks(t, "what was told is spoilt")
	c := w.copied()
	s, _ := w.m.Step(step(1))
	w.p.step(step(1))
	spoil(s.T.Forget)
	early := w.copied()
	w.follows(t, steps(0, 0)...)
	s, _ = w.m.Step(step(1))
	if want, _ := w.p.step(step(1)); !same(s, want) {
		t.Fatalf("there is seen %+v, not %+v", s, want)
	}
	spoil(s.T.Forget)
	for _, x := range []*pair{w, c, early} {
		x.looks(t, "what was seen is spoilt")
		x.goesOn(t)
	}
}

// spoil changes a list, and the room behind it.
func spoil[T any](l []T) {
	clear(l[:cap(l)])
}

// TestP194Box: what 64 pages were is heard; a message that is too much for a box is not sent.
func TestP194Box(t *testing.T) {
	for _, pages := range []int{63, 64, 65, 100} {
		l := append(laid(pages), api.Call{Ask: api.AskDelete, At: 20}, api.Call{Ask: api.AskYield})
		w := fresh(t, booted, l, 256)
		for n := range len(l) - 2 {
			w.follows(t, whole(0, n)...)
		}
		for page := range pages {
			w.follows(t, load(0, page), load(1, page))
		}
		w.follows(t, wants(0, len(l)-2), step(0), step(0))
		if w.m.Owed(0) != min(64, pages) || len(w.m.Lines(0)) != 0 || len(w.m.Lines(1)) != pages {
			t.Fatalf("of %d pages: there is\n%s", pages, text(w.m, 2))
		}
		w.goesOn(t)
		if many := len(w.m.Lines(1)); many != max(0, pages-64) {
			t.Errorf("of %d pages %d are remembered", pages, many)
		}
		w.follows(t, wants(1, len(l)-1), step(1), step(1), step(1))
	}
}

// TestP194Alone: one core has nobody to tell of pages, so that each call is over three steps after it was wanted.
func TestP194Alone(t *testing.T) {
	l := laid(100)
	for i := range l {
		if l[i].With == 4 {
			l[i].With = 3
		}
	}
	l = append(l, api.Call{Ask: api.AskDelete, At: 20})
	w := fresh(t, api.Booted{Cores: 1, Bits: 12, Prios: []int{1}}, l, 256)
	for n := range len(l) - 1 {
		w.does(t, 0, n)
	}
	for page := range 100 {
		w.follows(t, load(0, page))
	}
	if len(w.m.Lines(0)) != 100 {
		t.Fatalf("there are %d lines", len(w.m.Lines(0)))
	}
	w.does(t, 0, len(l)-1)
	if does, _ := w.m.Core(0); does != api.Using || len(w.m.Lines(0)) != 0 {
		t.Errorf("there is\n%s", text(w.m, 1))
	}
}

// TestTellsMuch holds what the tests look at to tell all.
func TestTellsMuch(t *testing.T) {
	w := furnished(t)
	w.follows(t, load(1, 3), wants(0, unmap3), step(0), step(0))
	s := text(w.m, 2)
	for _, part := range []string{"line [0]", "core 0 3 true [] owed 1", "core 1 0 true [{0 3 {0 7}}]", "space 0 [{4 {1 1}}]", "core 2 0 false"} {
		if !strings.Contains(s, part) {
			t.Errorf("there is no %q in\n%s", part, s)
		}
	}
}

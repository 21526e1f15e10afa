package slots_test

import (
	"math"
	"slices"
	"testing"

	"buttress/api"
	"buttress/slots"
)

// far are numbers that are neither a node's nor a slot's; many have lowest bits that would be right ones.
var far = []int{-1, -2, -8, -64, -256, -1 << 31, -1 << 32, 1 << 31, 1 << 32, 1<<32 + 1, 1 << 62, math.MinInt, math.MinInt + 1, math.MaxInt, math.MaxInt - 1}

// right are capabilities of every kind, so that none of them is told from the others by its kind alone.
var right = []api.Cap{
	{Kind: api.CapUntyped, Rights: api.All},
	{Kind: api.CapNode, Obj: 2, Rights: api.All, Guard: 5, Bits: 3},
	{Kind: api.CapThread, Obj: 1, Rights: api.All},
	{Kind: api.CapEndpoint, Obj: 4, Rights: api.Read, Badge: 9},
	{Kind: api.CapEndpoint},
	{Kind: api.CapNotify, Obj: 4, Rights: api.Write, Badge: math.MaxUint64},
	{Kind: api.CapFrame, Obj: 1<<31 - 1, Rights: api.Read | api.Write},
	{Kind: api.CapTable, Obj: 3, Rights: api.All},
	{Kind: api.CapSpace, Obj: 5, Rights: api.All},
	{Kind: api.CapIrq, Obj: 7, Rights: api.All},
}

// wrong are capabilities that may not be, some of them of the kind CapNone.
var wrong = []api.Cap{
	{Kind: api.CapKinds, Rights: api.All}, {Kind: -1}, {Kind: 99}, {Obj: 1}, {Rights: 7}, {Badge: 1}, {Guard: 1}, {Bits: 1},
	{Kind: api.CapThread}, {Kind: api.CapThread, Obj: -1, Rights: 7}, {Kind: api.CapThread, Obj: 1 << 31, Rights: 7}, {Kind: api.CapFrame, Rights: 8},
	{Kind: api.CapFrame, Badge: 1}, {Kind: api.CapNode, Rights: 7, Guard: 2, Bits: 1}, {Kind: api.CapNode, Rights: 7, Bits: 65},
}

var (
	thread = right[2]
	end    = right[3]
	frame  = right[6]
	none   = api.Cap{}
)

func at(node, i int) api.Slot { return api.Slot{Node: node, I: i} }

// made are nodes of these bits, one by one.
func made(t *testing.T, bits ...int) *slots.Nodes {
	t.Helper()
	n := slots.New()
	for i, b := range bits {
		makes(t, n, b, i, api.OK)
	}
	return n
}

func makes(t *testing.T, n *slots.Nodes, bits, want int, wantE api.Errno) {
	t.Helper()
	if id, e := n.Make(bits); id != want || e != wantE {
		t.Fatalf("Make(%d) = %d, %d, not %d, %d", bits, id, e, want, wantE)
	}
}

func puts(t *testing.T, n *slots.Nodes, s api.Slot, c api.Cap) {
	t.Helper()
	answers(t, "Put", n.Put(s, c), api.OK)
}

func drops(t *testing.T, n *slots.Nodes, nodes ...int) {
	t.Helper()
	for _, node := range nodes {
		answers(t, "Drop", n.Drop(node), api.OK)
	}
}

func answers(t *testing.T, what string, e, want api.Errno) {
	t.Helper()
	if e != want {
		t.Fatalf("%s answers %d, not %d", what, e, want)
	}
}

func takes(t *testing.T, n *slots.Nodes, s api.Slot, want api.Cap, wantE api.Errno) {
	t.Helper()
	if c, e := n.Take(s); c != want || e != wantE {
		t.Fatalf("Take(%v) = %+v, %d, not %+v, %d", s, c, e, want, wantE)
	}
}

func gets(t *testing.T, n *slots.Nodes, s api.Slot, want api.Cap, wantE api.Errno) {
	t.Helper()
	if c, e := n.Get(s); c != want || e != wantE {
		t.Fatalf("Get(%v) = %+v, %d, not %+v, %d", s, c, e, want, wantE)
	}
}

func sized(t *testing.T, n *slots.Nodes, node, want int, wantIs bool) {
	t.Helper()
	if bits, is := n.Size(node); bits != want || is != wantIs {
		t.Fatalf("Size(%d) = %d, %v, not %d, %v", node, bits, is, want, wantIs)
	}
}

func holds(t *testing.T, n *slots.Nodes, want ...api.Held) {
	t.Helper()
	if l := n.Held(); !slices.Equal(l, want) {
		t.Fatalf("Held() = %+v, not %+v", l, want)
	}
}

// state is all that can be asked of nodes.
type state struct {
	bits [api.MaxNodes + 1]int
	held []api.Held
}

// told asks every slot for itself; Held must tell the same.
func told(t *testing.T, n *slots.Nodes) state {
	t.Helper()
	var s state
	for node := range s.bits {
		bits, is := n.Size(node)
		if is != (bits != 0) {
			t.Fatalf("Size(%d) = %d, %v", node, bits, is)
		}
		s.bits[node] = bits
		for i := range 1 << bits {
			c, e := n.Get(at(node, i))
			if is != (e == api.OK) || !is && c != none {
				t.Fatalf("Get(%d, %d) = %+v, %d of a node of %d bits", node, i, c, e, bits)
			}
			if c != none {
				s.held = append(s.held, api.Held{At: at(node, i), C: c})
			}
		}
	}
	holds(t, n, s.held...)
	return s
}

func sameState(t *testing.T, what string, got, want state) {
	t.Helper()
	if got.bits != want.bits || !slices.Equal(got.held, want.held) {
		t.Fatalf("%s: the state is %+v, not %+v", what, got, want)
	}
}

func TestP51New(t *testing.T) {
	n := slots.New()
	sameState(t, "New", told(t, n), state{})
	if l := n.Held(); len(l) != 0 {
		t.Errorf("Held() = %v", l)
	}
	makes(t, n, 1, 0, api.OK)
	sameState(t, "another New", told(t, slots.New()), state{})
}

// TestP51Make: a node of each size has as many slots as that, all free, and none above.
func TestP51Make(t *testing.T) {
	n := slots.New()
	many := []int{2, 4, 8, 16, 32, 64, 128, 256}
	for i, count := range many {
		makes(t, n, i+1, i, api.OK)
		sized(t, n, i, i+1, true)
		for slot := range count {
			gets(t, n, at(i, slot), none, api.OK)
		}
		for _, slot := range append([]int{count, count + 1, 2 * count, 256, 257, 1<<32 + count - 1}, far...) {
			gets(t, n, at(i, slot), none, api.ErrSlotsNone)
		}
	}
	for i := range many {
		sized(t, n, i, i+1, true)
	}
}

func TestP51MakeWrong(t *testing.T) {
	n := made(t, 1, 8)
	was := told(t, n)
	for _, bits := range append([]int{0, 9, 10, 63, 64, 65, 256 + 1, 1<<32 + 8}, far...) {
		makes(t, n, bits, 0, api.ErrArg)
	}
	sameState(t, "Make of wrong bits", told(t, n), was)
	makes(t, n, 2, 2, api.OK)
}

// TestP51MakeMany: the 64th node is the last one, dropped ones count on, and ErrArg is named ahead of ErrBig.
func TestP51MakeMany(t *testing.T) {
	for _, gone := range [][]int{{}, {0}, {63}, {1, 5, 62}} {
		n := slots.New()
		for i := range 64 {
			makes(t, n, 1+i%8, i, api.OK)
		}
		drops(t, n, gone...)
		was := told(t, n)
		for bits := 1; bits <= 8; bits++ {
			makes(t, n, bits, 0, api.ErrBig)
		}
		for _, bits := range []int{0, 9, -1, math.MaxInt} {
			makes(t, n, bits, 0, api.ErrArg)
		}
		sameState(t, "Make of too many", told(t, n), was)
	}
}

func TestP51MakeManyDroppedAtOnce(t *testing.T) {
	n := slots.New()
	for i := range 64 {
		makes(t, n, 8, i, api.OK)
		drops(t, n, i)
	}
	makes(t, n, 8, 0, api.ErrBig)
	sameState(t, "all dropped", told(t, n), state{})
}

func TestP51Size(t *testing.T) {
	n := made(t, 3, 1, 8)
	for node, bits := range []int{3, 1, 8} {
		sized(t, n, node, bits, true)
	}
	drops(t, n, 1)
	for _, node := range append([]int{1, 3, 4, 63, 64, 65, 256, 1<<32 + 2}, far...) {
		sized(t, n, node, 0, false)
	}
	sized(t, n, 0, 3, true)
	sized(t, n, 2, 8, true)
}

func TestP51Drop(t *testing.T) {
	n := made(t, 1, 2, 8)
	puts(t, n, at(0, 1), thread)
	puts(t, n, at(2, 255), frame)
	drops(t, n, 1)
	sized(t, n, 1, 0, false)
	answers(t, "Drop again", n.Drop(1), api.ErrSlotsNone)
	holds(t, n, api.Held{At: at(0, 1), C: thread}, api.Held{At: at(2, 255), C: frame})
	makes(t, n, 4, 3, api.OK)
	sized(t, n, 1, 0, false)
	sized(t, n, 3, 4, true)
}

// TestP51DropFull: one slot that is not free is enough, whichever it is, until it is free again.
func TestP51DropFull(t *testing.T) {
	for bits := 1; bits <= 8; bits++ {
		for i := range 1 << bits {
			n := made(t, 1, bits, 8)
			puts(t, n, at(1, i), end)
			answers(t, "Drop", n.Drop(1), api.ErrSlotsFull)
			sized(t, n, 1, bits, true)
			gets(t, n, at(1, i), end, api.OK)
			takes(t, n, at(1, i), end, api.OK)
			drops(t, n, 1, 0, 2)
		}
	}
}

func TestP51DropOfFreedNode(t *testing.T) {
	n := made(t, 1, 1, 1)
	puts(t, n, at(0, 1), end)
	answers(t, "Move", n.Move(at(0, 1), at(1, 0)), api.OK)
	drops(t, n, 0)
	answers(t, "Swap", n.Swap(at(1, 0), at(2, 1)), api.OK)
	drops(t, n, 1)
	answers(t, "Drop", n.Drop(2), api.ErrSlotsFull)
	holds(t, n, api.Held{At: at(2, 1), C: end})
}

func TestP51DropWrong(t *testing.T) {
	n := made(t, 1, 2)
	puts(t, n, at(1, 0), end)
	was := told(t, n)
	for _, node := range append([]int{2, 3, 63, 64, 1<<32 + 1}, far...) {
		answers(t, "Drop", n.Drop(node), api.ErrSlotsNone)
	}
	answers(t, "Drop", slots.New().Drop(0), api.ErrSlotsNone)
	sameState(t, "Drop of none", told(t, n), was)
}

// lacking are slots that nodes of 1, 2 (which was dropped), 8 and 3 bits do not have.
func lacking() []api.Slot {
	l := []api.Slot{at(0, 2), at(0, 3), at(2, 256), at(2, 257), at(3, 8), at(3, 9), at(3, 255), at(1, 0), at(1, 1), at(1, 3), at(1, 4), at(4, 0), at(4, 1), at(63, 0), at(64, 0), at(1<<32, 0)}
	for _, x := range far {
		l = append(l, at(0, x), at(2, x), at(3, x), at(x, 0), at(x, 1), at(x, x))
	}
	return l
}

// someNodes have the slots (0, 0), (2, 255) and (3, 7) held, and lack those of lacking.
func someNodes(t *testing.T) *slots.Nodes {
	t.Helper()
	n := made(t, 1, 2, 8, 3)
	drops(t, n, 1)
	puts(t, n, at(3, 7), end)
	puts(t, n, at(0, 0), thread)
	puts(t, n, at(2, 255), frame)
	return n
}

func TestP52PutAndGet(t *testing.T) {
	for _, s := range []api.Slot{at(0, 0), at(0, 1), at(1, 0), at(1, 128), at(1, 255)} {
		for _, c := range right {
			n := made(t, 1, 8)
			puts(t, n, s, c)
			gets(t, n, s, c, api.OK)
			gets(t, n, s, c, api.OK)
			holds(t, n, api.Held{At: s, C: c})
			sameState(t, "Put", told(t, n), state{bits: [65]int{1, 8}, held: []api.Held{{At: s, C: c}}})
		}
	}
}

func TestP52PutFull(t *testing.T) {
	n := someNodes(t)
	was := told(t, n)
	for _, s := range []api.Slot{at(0, 0), at(2, 255), at(3, 7)} {
		for _, c := range right {
			answers(t, "Put", n.Put(s, c), api.ErrSlotsFull)
		}
	}
	sameState(t, "Put into what is not free", told(t, n), was)
}

// TestP52PutErrors: of a slot that is not there nothing else matters, then comes Check, then CapNone, then what is there.
func TestP52PutErrors(t *testing.T) {
	n := someNodes(t)
	was := told(t, n)
	for _, s := range lacking() {
		answers(t, "Put", n.Put(s, thread), api.ErrSlotsNone)
		answers(t, "Put of CapNone", n.Put(s, none), api.ErrSlotsNone)
		answers(t, "Put of what may not be", n.Put(s, wrong[0]), api.ErrSlotsNone)
	}
	for _, s := range []api.Slot{at(0, 0), at(0, 1), at(2, 0), at(2, 255), at(3, 7)} {
		for _, c := range wrong {
			answers(t, "Put of what may not be", n.Put(s, c), api.ErrCapsForm)
		}
		answers(t, "Put of CapNone", n.Put(s, none), api.ErrArg)
	}
	sameState(t, "Put with errors", told(t, n), was)
}

func TestP52Take(t *testing.T) {
	for _, c := range right {
		n := someNodes(t)
		was := told(t, n)
		puts(t, n, at(2, 0), c)
		takes(t, n, at(2, 0), c, api.OK)
		gets(t, n, at(2, 0), none, api.OK)
		takes(t, n, at(2, 0), none, api.ErrSlotsFree)
		sameState(t, "Put and Take", told(t, n), was)
		puts(t, n, at(2, 0), end)
		takes(t, n, at(2, 0), end, api.OK)
	}
}

func TestP52TakeFree(t *testing.T) {
	n := someNodes(t)
	was := told(t, n)
	for _, s := range []api.Slot{at(0, 1), at(2, 0), at(2, 254), at(3, 0)} {
		takes(t, n, s, none, api.ErrSlotsFree)
	}
	sameState(t, "Take of free ones", told(t, n), was)
}

func TestP52NoSlot(t *testing.T) {
	n := someNodes(t)
	was := told(t, n)
	for _, s := range lacking() {
		gets(t, n, s, none, api.ErrSlotsNone)
		takes(t, n, s, none, api.ErrSlotsNone)
	}
	sameState(t, "Get and Take of none", told(t, n), was)
	gets(t, slots.New(), at(0, 0), none, api.ErrSlotsNone)
	takes(t, slots.New(), at(0, 0), none, api.ErrSlotsNone)
}

func TestP53MoveExample(t *testing.T) {
	n := slots.New()
	makes(t, n, 1, 0, api.OK)
	puts(t, n, at(0, 1), thread)
	answers(t, "Move", n.Move(at(0, 1), at(0, 0)), api.OK)
	gets(t, n, at(0, 1), none, api.OK)
	gets(t, n, at(0, 0), thread, api.OK)
	holds(t, n, api.Held{At: at(0, 0), C: thread})
}

func TestP53Move(t *testing.T) {
	for _, c := range right {
		for _, to := range []api.Slot{at(0, 1), at(1, 0), at(1, 255)} {
			n := made(t, 1, 8)
			puts(t, n, at(0, 0), c)
			answers(t, "Move", n.Move(at(0, 0), to), api.OK)
			holds(t, n, api.Held{At: to, C: c})
			takes(t, n, at(0, 0), none, api.ErrSlotsFree)
			puts(t, n, at(0, 0), end)
			takes(t, n, to, c, api.OK)
			holds(t, n, api.Held{At: at(0, 0), C: end})
		}
	}
}

// TestP53MoveErrors: a slot that is not there is named first, then a free one to move from, then a held one to move to.
func TestP53MoveErrors(t *testing.T) {
	n := someNodes(t)
	was := told(t, n)
	held, free := at(0, 0), at(0, 1)
	for _, s := range lacking() {
		for _, other := range []api.Slot{held, free, at(2, 255), s} {
			answers(t, "Move", n.Move(s, other), api.ErrSlotsNone)
			answers(t, "Move", n.Move(other, s), api.ErrSlotsNone)
		}
	}
	for _, to := range []api.Slot{free, held, at(2, 0), at(2, 255)} {
		answers(t, "Move of nothing", n.Move(free, to), api.ErrSlotsFree)
	}
	answers(t, "Move to one that is not free", n.Move(held, at(2, 255)), api.ErrSlotsFull)
	answers(t, "Move to itself", n.Move(held, held), api.ErrSlotsFull)
	answers(t, "Move to itself", n.Move(at(3, 7), at(3, 7)), api.ErrSlotsFull)
	sameState(t, "Move with errors", told(t, n), was)
}

func TestP53Swap(t *testing.T) {
	for _, a := range append([]api.Cap{none}, right...) {
		for _, b := range append([]api.Cap{none}, right...) {
			for _, to := range []api.Slot{at(0, 1), at(1, 255)} {
				n := made(t, 1, 8)
				if a != none {
					puts(t, n, at(0, 0), a)
				}
				if b != none {
					puts(t, n, to, b)
				}
				was := told(t, n)
				answers(t, "Swap", n.Swap(at(0, 0), to), api.OK)
				gets(t, n, at(0, 0), b, api.OK)
				gets(t, n, to, a, api.OK)
				// Were a free slot kept as held, Held would tell it, and told would see that.
				told(t, n)
				answers(t, "Swap back", n.Swap(to, at(0, 0)), api.OK)
				sameState(t, "Swap and back", told(t, n), was)
			}
		}
	}
}

func TestP53SwapWithFree(t *testing.T) {
	n := made(t, 1, 2)
	puts(t, n, at(0, 0), thread)
	answers(t, "Swap", n.Swap(at(0, 0), at(1, 3)), api.OK)
	holds(t, n, api.Held{At: at(1, 3), C: thread})
	takes(t, n, at(0, 0), none, api.ErrSlotsFree)
	drops(t, n, 0)
	answers(t, "Swap", n.Swap(at(1, 0), at(1, 3)), api.OK)
	holds(t, n, api.Held{At: at(1, 0), C: thread})
	answers(t, "Swap of free ones", n.Swap(at(1, 1), at(1, 2)), api.OK)
	holds(t, n, api.Held{At: at(1, 0), C: thread})
	puts(t, n, at(1, 1), end)
	puts(t, n, at(1, 2), frame)
}

func TestP53SwapWithItself(t *testing.T) {
	n := someNodes(t)
	was := told(t, n)
	for _, s := range []api.Slot{at(0, 0), at(0, 1), at(2, 255), at(2, 0), at(3, 7)} {
		answers(t, "Swap", n.Swap(s, s), api.OK)
		sameState(t, "Swap with itself", told(t, n), was)
	}
	takes(t, n, at(0, 1), none, api.ErrSlotsFree)
}

func TestP53SwapErrors(t *testing.T) {
	n := someNodes(t)
	was := told(t, n)
	for _, s := range lacking() {
		for _, other := range []api.Slot{at(0, 0), at(0, 1), at(2, 255), s} {
			answers(t, "Swap", n.Swap(s, other), api.ErrSlotsNone)
			answers(t, "Swap", n.Swap(other, s), api.ErrSlotsNone)
		}
	}
	sameState(t, "Swap with errors", told(t, n), was)
}

// TestP54Held fills many nodes in an order of its own, so that no order but the promised one is told by chance.
func TestP54Held(t *testing.T) {
	n := made(t, 8, 1, 4, 8, 2, 1, 1, 1, 1, 1, 1)
	drops(t, n, 5)
	var want []api.Held
	for _, s := range []api.Slot{at(0, 0), at(0, 1), at(0, 2), at(0, 10), at(0, 99), at(0, 100), at(0, 255), at(1, 1), at(2, 0), at(2, 15), at(3, 7), at(3, 200), at(4, 3), at(9, 0), at(10, 0), at(10, 1)} {
		want = append(want, api.Held{At: s, C: right[(s.Node+s.I)%len(right)]})
	}
	for i := range want {
		x := want[(i*7+3)%len(want)]
		puts(t, n, x.At, x.C)
	}
	for range 20 {
		holds(t, n, want...)
	}
	if l := told(t, n).held; !slices.Equal(l, want) {
		t.Errorf("asked one by one: %v", l)
	}
}

func TestP54HeldOfAll(t *testing.T) {
	n := slots.New()
	var want []api.Held
	for node := range 64 {
		makes(t, n, 8, node, api.OK)
		for i := range 256 {
			want = append(want, api.Held{At: at(node, i), C: right[(node+i)%len(right)]})
		}
	}
	for i := len(want) - 1; i >= 0; i-- {
		puts(t, n, want[i].At, want[i].C)
	}
	holds(t, n, want...)
	for _, x := range want {
		takes(t, n, x.At, x.C, api.OK)
	}
	holds(t, n)
}

// What is told is the caller's own, the room behind it too.
func TestP54HeldIsOnesOwn(t *testing.T) {
	n := someNodes(t)
	was := told(t, n)
	l, other := n.Held(), n.Held()
	l = l[:cap(l)]
	for i := range l {
		l[i] = api.Held{At: at(9, 9), C: right[0]}
	}
	sameState(t, "a list is written over", told(t, n), was)
	if !slices.Equal(other, was.held) {
		t.Errorf("another list is %v", other)
	}
	takes(t, n, at(0, 0), thread, api.OK)
	if !slices.Equal(other, was.held) {
		t.Errorf("a list told before the Take is %v", other)
	}
}

func TestP54Copy(t *testing.T) {
	for _, n := range []*slots.Nodes{slots.New(), made(t, 1), someNodes(t)} {
		was := told(t, n)
		c := n.Copy()
		sameState(t, "a copy", told(t, c), was)
		sameState(t, "a copy's copy", told(t, c.Copy()), was)
		sameState(t, "what was copied", told(t, n), was)
	}
}

// TestP54CopyGoesItsOwnWay: whoever is changed, by whichever call, the other one stays.
func TestP54CopyGoesItsOwnWay(t *testing.T) {
	for i, change := range []func(*slots.Nodes) api.Errno{
		func(n *slots.Nodes) api.Errno { _, e := n.Make(5); return e },
		func(n *slots.Nodes) api.Errno { return n.Drop(4) },
		func(n *slots.Nodes) api.Errno { return n.Put(at(0, 1), end) },
		func(n *slots.Nodes) api.Errno { _, e := n.Take(at(0, 0)); return e },
		func(n *slots.Nodes) api.Errno { return n.Move(at(0, 0), at(2, 0)) },
		func(n *slots.Nodes) api.Errno { return n.Swap(at(0, 0), at(3, 7)) },
		func(n *slots.Nodes) api.Errno { return n.Swap(at(0, 0), at(0, 1)) },
	} {
		n := someNodes(t)
		makes(t, n, 2, 4, api.OK)
		was := told(t, n)
		c := n.Copy()
		answers(t, "a change of what was copied", change(n), api.OK)
		sameState(t, "a copy", told(t, c), was)
		d := c.Copy()
		answers(t, "a change of a copy", change(d), api.OK)
		sameState(t, "what was copied", told(t, c), was)
		sameState(t, "both, changed alike", told(t, d), told(t, n))
		if got := told(t, d); got.bits == was.bits && slices.Equal(got.held, was.held) {
			t.Errorf("change %d changes nothing", i)
		}
	}
}

// TestP54CopiesBothMake: were room for nodes shared, the one's new node would be the other one's.
func TestP54CopiesBothMake(t *testing.T) {
	for count := range 10 {
		n := slots.New()
		for i := range count {
			makes(t, n, 1, i, api.OK)
		}
		c := n.Copy()
		makes(t, n, 3, count, api.OK)
		makes(t, c, 7, count, api.OK)
		sized(t, n, count, 3, true)
		sized(t, c, count, 7, true)
		sized(t, n, count+1, 0, false)
		makes(t, n, 4, count+1, api.OK)
		sized(t, c, count+1, 0, false)
	}
}

// TestP54CopyCountsOn: a copy knows how many nodes were made, dropped ones too.
func TestP54CopyCountsOn(t *testing.T) {
	n := made(t, 1, 2, 3)
	drops(t, n, 2, 0)
	makes(t, n.Copy(), 1, 3, api.OK)
	for i := 3; i < 64; i++ {
		makes(t, n, 1, i, api.OK)
	}
	drops(t, n, 63)
	c := n.Copy()
	makes(t, c, 1, 0, api.ErrBig)
	answers(t, "Drop", c.Drop(63), api.ErrSlotsNone)
	sized(t, c, 1, 2, true)
}

// model are nodes once more, as plainly as the chapter tells them: a node is its slots, and none if it was dropped.
type model [][]api.Cap

func (m model) at(s api.Slot) *api.Cap {
	if s.Node < 0 || s.Node >= len(m) || s.I < 0 || s.I >= len(m[s.Node]) {
		return nil
	}
	return &m[s.Node][s.I]
}

func (m model) copy() model {
	c := make(model, len(m))
	for i := range m {
		c[i] = slices.Clone(m[i])
	}
	return c
}

func (m model) state() state {
	var s state
	for node, l := range m {
		for 1<<s.bits[node] < len(l) {
			s.bits[node]++
		}
		for i, c := range l {
			if c != none {
				s.held = append(s.held, api.Held{At: at(node, i), C: c})
			}
		}
	}
	return s
}

func (m *model) make(bits int) (int, api.Errno) {
	if bits < 1 || bits > 8 {
		return 0, api.ErrArg
	}
	if len(*m) == 64 {
		return 0, api.ErrBig
	}
	*m = append(*m, make([]api.Cap, 1<<bits))
	return len(*m) - 1, api.OK
}

func (m model) drop(node int) api.Errno {
	if m.at(at(node, 0)) == nil {
		return api.ErrSlotsNone
	}
	for _, c := range m[node] {
		if c != none {
			return api.ErrSlotsFull
		}
	}
	m[node] = nil
	return api.OK
}

// put is handed what Check answers of c, since which capabilities may be is another chapter's.
func (m model) put(s api.Slot, c api.Cap, check api.Errno) api.Errno {
	p := m.at(s)
	switch {
	case p == nil:
		return api.ErrSlotsNone
	case check != api.OK:
		return check
	case c == none:
		return api.ErrArg
	case *p != none:
		return api.ErrSlotsFull
	}
	*p = c
	return api.OK
}

func (m model) take(s api.Slot) (api.Cap, api.Errno) {
	p := m.at(s)
	switch {
	case p == nil:
		return none, api.ErrSlotsNone
	case *p == none:
		return none, api.ErrSlotsFree
	}
	c := *p
	*p = none
	return c, api.OK
}

func (m model) move(from, to api.Slot) api.Errno {
	f, x := m.at(from), m.at(to)
	switch {
	case f == nil || x == nil:
		return api.ErrSlotsNone
	case *f == none:
		return api.ErrSlotsFree
	case *x != none:
		return api.ErrSlotsFull
	}
	*f, *x = *x, *f
	return api.OK
}

func (m model) swap(a, b api.Slot) api.Errno {
	x, y := m.at(a), m.at(b)
	if x == nil || y == nil {
		return api.ErrSlotsNone
	}
	*x, *y = *y, *x
	return api.OK
}

// pick is a row of numbers that is the same at every run.
type pick uint64

func (p *pick) next(n int) int {
	*p = *p*6364136223846793005 + 1442695040888963407
	return int(*p>>33) % n
}

// slot is near the first nodes' ends most often, so that all errors come up, and all that is no error.
func (p *pick) slot() api.Slot {
	return at(p.next(8)-1, p.next(6)-1)
}

// both does one call at the nodes and at the model, and answers what each answers.
func both(n *slots.Nodes, m *model, p *pick) (got, want [3]any) {
	a, b := p.slot(), p.slot()
	switch p.next(16) {
	case 0:
		bits := p.next(4)
		id, e := n.Make(bits)
		wantID, wantE := m.make(bits)
		return [3]any{"Make", id, e}, [3]any{"Make", wantID, wantE}
	case 1:
		return [3]any{"Drop", n.Drop(a.Node)}, [3]any{"Drop", m.drop(a.Node)}
	case 2, 3, 4, 5:
		c := right[p.next(len(right))]
		return [3]any{"Put", n.Put(a, c)}, [3]any{"Put", m.put(a, c, api.OK)}
	case 6:
		c := wrong[p.next(len(wrong))]
		return [3]any{"Put", n.Put(a, c)}, [3]any{"Put", m.put(a, c, api.ErrCapsForm)}
	case 7:
		return [3]any{"Put", n.Put(a, none)}, [3]any{"Put", m.put(a, none, api.OK)}
	case 8, 9, 10:
		c, e := n.Take(a)
		wantC, wantE := m.take(a)
		return [3]any{"Take", c, e}, [3]any{"Take", wantC, wantE}
	case 11, 12, 13:
		return [3]any{"Move", n.Move(a, b)}, [3]any{"Move", m.move(a, b)}
	}
	return [3]any{"Swap", n.Swap(a, b)}, [3]any{"Swap", m.swap(a, b)}
}

// TestP55WhatIsPutInIsThere does many calls, wrong ones among them: every capability is where the model has it, and no other one is.
func TestP55WhatIsPutInIsThere(t *testing.T) {
	p := pick(1)
	for run := range 40 {
		n, m := slots.New(), model{}
		var copies []*slots.Nodes
		var states []state
		for step := range 300 {
			if got, want := both(n, &m, &p); got != want {
				t.Fatalf("run %d, step %d: answered %v, not %v", run, step, got, want)
			}
			sameState(t, "a step", told(t, n), m.state())
			if step%60 == 0 {
				copies, states = append(copies, n.Copy()), append(states, m.copy().state())
			}
			if step%100 == 50 {
				// The copy goes on in its original's place: nothing may tell them apart.
				n = n.Copy()
			}
		}
		for i, c := range copies {
			sameState(t, "a copy of earlier", told(t, c), states[i])
		}
	}
}

// TestP55FullNodeThroughAll: a capability that goes through every slot of a node is in one of them at a time.
func TestP55FullNodeThroughAll(t *testing.T) {
	n := made(t, 8, 1)
	puts(t, n, at(0, 0), end)
	puts(t, n, at(1, 1), thread)
	for i := 1; i < 256; i++ {
		answers(t, "Move", n.Move(at(0, i-1), at(0, i)), api.OK)
		holds(t, n, api.Held{At: at(0, i), C: end}, api.Held{At: at(1, 1), C: thread})
	}
	for i := 255; i > 0; i-- {
		answers(t, "Swap", n.Swap(at(0, i-1), at(0, i)), api.OK)
		holds(t, n, api.Held{At: at(0, i-1), C: end}, api.Held{At: at(1, 1), C: thread})
	}
	takes(t, n, at(0, 0), end, api.OK)
	takes(t, n, at(1, 1), thread, api.OK)
	holds(t, n)
	drops(t, n, 0, 1)
}

package lookup_test

import (
	"fmt"
	"math"
	"slices"
	"strconv"
	"strings"
	"testing"

	"buttress/api"
	"buttress/caps"
	"buttress/lookup"
	"buttress/slots"
)

const allBits = uint64(math.MaxUint64)

// far are numbers that are neither a depth, a node's nor a slot's; many have lowest bits that would be right ones.
var far = []int{-1, -2, -3, -8, -64, -256, -1 << 31, -1 << 32, 1 << 31, 1 << 32, 1<<32 + 1, 1<<32 + 3, 1 << 62, math.MinInt, math.MinInt + 1, math.MinInt + 3, math.MaxInt, math.MaxInt - 1}

var (
	none   = api.Cap{}
	end    = api.Cap{Kind: api.CapEndpoint, Obj: 1, Rights: api.Read, Badge: 9}
	thread = api.Cap{Kind: api.CapThread, Rights: api.All}
)

// others are of every kind but CapNode, to an object whose number a node has too.
var others = []api.Cap{
	none, end, thread,
	{Kind: api.CapUntyped, Rights: api.All},
	{Kind: api.CapNotify, Rights: api.All},
	{Kind: api.CapFrame, Rights: api.All},
	{Kind: api.CapTable, Rights: api.All},
	{Kind: api.CapSpace, Rights: api.All},
	{Kind: api.CapIrq, Rights: api.All},
}

// unlawful may not be; all but the last ones are to node 0, and would take a way through it.
var unlawful = []api.Cap{
	{Kind: api.CapNode, Rights: 0},
	{Kind: api.CapNode, Rights: 3},
	{Kind: api.CapNode, Rights: 8},
	{Kind: api.CapNode, Rights: api.All, Badge: 1},
	{Kind: api.CapNode, Rights: api.All, Guard: 1},
	{Kind: api.CapNode, Rights: api.All, Guard: 2, Bits: 1},
	{Kind: api.CapNode, Rights: api.All, Guard: 1 << 63, Bits: 63},
	{Kind: api.CapNode, Rights: api.All, Bits: -1},
	{Kind: api.CapNode, Rights: api.All, Bits: 65},
	{Kind: api.CapNode, Rights: api.All, Bits: math.MinInt},
	{Kind: api.CapNode, Rights: api.All, Bits: math.MaxInt},
	{Kind: api.CapNode, Rights: api.All, Obj: -1},
	{Kind: api.CapNode, Rights: api.All, Obj: 1 << 31},
	{Kind: api.CapNode, Rights: api.All, Obj: 1 << 32},
	{Kind: api.CapNode, Rights: api.All, Obj: math.MinInt},
	{Kind: api.CapNode, Rights: api.All, Obj: math.MaxInt},
	{Kind: api.CapNode + 256, Rights: api.All},
	{Kind: -1, Rights: api.All},
	{Kind: api.CapKinds, Rights: api.All},
	{Obj: 1},
}

func at(node, i int) api.Slot { return api.Slot{Node: node, I: i} }

func node(obj int, guard uint64, bits int) api.Cap {
	return api.Cap{Kind: api.CapNode, Obj: obj, Rights: api.All, Guard: guard, Bits: bits}
}

// some are nodes of 2, 3, 8 and 1 bits, 0 to 3, in which ways lead on to one another; 4 was dropped, 5 was never made.
func some(t *testing.T) *slots.Nodes {
	t.Helper()
	n := slots.New()
	for i, bits := range []int{2, 3, 8, 1, 2} {
		if id, e := n.Make(bits); id != i || e != api.OK {
			t.Fatalf("Make(%d) = %d, %d", bits, id, e)
		}
	}
	for s, c := range map[api.Slot]api.Cap{
		at(0, 1): node(1, 0b101, 3), at(0, 2): end, at(0, 3): node(4, 0, 0),
		at(1, 0): node(2, 0, 0), at(1, 1): node(5, 0, 0), at(1, 2): thread, at(1, 6): node(0, 0, 0), at(1, 7): node(3, 0b01, 2),
		at(2, 0): thread, at(2, 9): node(0, 1, 1), at(2, 255): node(3, 0, 0),
		at(3, 0): end, at(3, 1): node(3, 0, 0),
	} {
		put(t, n, s, c)
	}
	if e := n.Drop(4); e != api.OK {
		t.Fatalf("Drop answers %d", e)
	}
	return n
}

// one is a single node of some bits.
func one(t *testing.T, bits int) *slots.Nodes {
	t.Helper()
	n := slots.New()
	if id, e := n.Make(bits); id != 0 || e != api.OK {
		t.Fatalf("Make(%d) = %d, %d", bits, id, e)
	}
	return n
}

func put(t *testing.T, n *slots.Nodes, s api.Slot, c api.Cap) {
	t.Helper()
	if e := n.Put(s, c); e != api.OK {
		t.Fatalf("Put(%v, %+v) answers %d", s, c, e)
	}
}

// read is an address that stands as 0s and 1s, parted as is plain to read, and how many these are.
func read(t *testing.T, text string) (uint64, int) {
	t.Helper()
	text = strings.ReplaceAll(text, " ", "")
	v, err := strconv.ParseUint(text, 2, 64)
	if err != nil && text != "" {
		t.Fatal(err)
	}
	return v, len(text)
}

// text is v in so many 0s and 1s.
func text(v uint64, bits int) string {
	return fmt.Sprintf("%064b", v)[64-bits:]
}

// finds holds Slot and Cap to the slot, whatever the bits above the depth are.
func finds(t *testing.T, n *slots.Nodes, root api.Cap, addr uint64, depth int, want api.Slot, wantE api.Errno) {
	t.Helper()
	wantC := none
	if wantE == api.OK {
		c, e := n.Get(want)
		if e != api.OK {
			t.Fatalf("there is no slot %v", want)
		}
		wantC = c
	}
	above := allBits
	if depth >= 0 {
		above <<= uint(depth)
	}
	for _, a := range []uint64{addr, addr | above, addr &^ above, addr ^ above&0x5555555555555555} {
		if s, e := lookup.Slot(n, root, a, depth); s != want || e != wantE {
			t.Errorf("Slot(%+v, %b, %d) = %v, %d, not %v, %d", root, a, depth, s, e, want, wantE)
		}
		if c, e := lookup.Cap(n, root, a, depth); c != wantC || e != wantE {
			t.Errorf("Cap(%+v, %b, %d) = %+v, %d, not %+v, %d", root, a, depth, c, e, wantC, wantE)
		}
	}
}

func leads(t *testing.T, n *slots.Nodes, root api.Cap, address string, want api.Slot) {
	t.Helper()
	addr, depth := read(t, address)
	finds(t, n, root, addr, depth, want, api.OK)
}

func fails(t *testing.T, n *slots.Nodes, root api.Cap, address string, want api.Errno) {
	t.Helper()
	addr, depth := read(t, address)
	finds(t, n, root, addr, depth, api.Slot{}, want)
}

func tells(t *testing.T, n *slots.Nodes, root api.Cap, want string, way ...int) {
	t.Helper()
	wantA, wantD := read(t, want)
	if a, d, e := lookup.Address(n, root, way); a != wantA || d != wantD || e != api.OK {
		t.Errorf("Address(%+v, %v) = %b, %d, %d, not %b, %d", root, way, a, d, e, wantA, wantD)
	}
}

func tellsNone(t *testing.T, n *slots.Nodes, root api.Cap, want api.Errno, way ...int) {
	t.Helper()
	if a, d, e := lookup.Address(n, root, way); a != 0 || d != 0 || e != want {
		t.Errorf("Address(%+v, %v) = %b, %d, %d, not error %d", root, way, a, d, e, want)
	}
}

// state is all that can be asked of nodes.
type state struct {
	bits [api.MaxNodes + 1]int
	held []api.Held
	next int
}

func told(n *slots.Nodes) state {
	s := state{held: n.Held()}
	for i := range s.bits {
		s.bits[i], _ = n.Size(i)
	}
	s.next, _ = n.Copy().Make(1)
	return s
}

func stays(t *testing.T, n *slots.Nodes, was state) {
	t.Helper()
	is := told(n)
	if is.bits != was.bits || is.next != was.next || !slices.Equal(is.held, was.held) {
		t.Errorf("nodes that were %+v are %+v", was, is)
	}
}

// slotOf is P6.1 once more, over an address as text.
func slotOf(n *slots.Nodes, root api.Cap, address string) (api.Slot, api.Errno) {
	c := root
	for {
		size, is := n.Size(c.Obj)
		if c.Kind != api.CapNode || caps.Check(c) != api.OK || !is {
			return api.Slot{}, api.ErrLookupKind
		}
		rest, is := strings.CutPrefix(address, text(c.Guard, c.Bits))
		if !is {
			return api.Slot{}, api.ErrLookupGuard
		}
		if len(rest) < size {
			return api.Slot{}, api.ErrLookupDepth
		}
		i, _ := strconv.ParseUint(rest[:size], 2, 64)
		s := at(c.Obj, int(i))
		address = rest[size:]
		if address == "" {
			return s, api.OK
		}
		c, _ = n.Get(s)
		if c.Kind != api.CapNode {
			return api.Slot{}, api.ErrLookupDepth
		}
	}
}

// addressOf is P6.3 once more: the address as text, and the last slot of the way.
func addressOf(n *slots.Nodes, root api.Cap, way []int) (string, api.Slot, api.Errno) {
	if len(way) == 0 {
		return "", api.Slot{}, api.ErrArg
	}
	address, c, s := "", root, api.Slot{}
	for _, i := range way {
		size, is := n.Size(c.Obj)
		switch {
		case c.Kind != api.CapNode || caps.Check(c) != api.OK || !is:
			return "", api.Slot{}, api.ErrLookupKind
		case i < 0 || i >= 1<<size:
			return "", api.Slot{}, api.ErrSlotsNone
		}
		address += text(c.Guard, c.Bits) + text(uint64(i), size)
		if len(address) > 64 {
			return "", api.Slot{}, api.ErrLookupDepth
		}
		s = at(c.Obj, i)
		c, _ = n.Get(s)
	}
	return address, s, api.OK
}

func TestP61Example(t *testing.T) {
	n := one(t, 2)
	root := node(0, 1, 1)
	finds(t, n, root, 0b110, 3, at(0, 2), api.OK)
	finds(t, n, root, 0b010, 3, api.Slot{}, api.ErrLookupGuard)
	finds(t, n, root, 0b0110, 4, api.Slot{}, api.ErrLookupGuard)
	finds(t, n, root, 0b1110, 4, api.Slot{}, api.ErrLookupDepth)
}

func TestP61OneNode(t *testing.T) {
	for size := 1; size <= 8; size++ {
		n := one(t, size)
		for i := range 1 << size {
			number := text(uint64(i), size)
			leads(t, n, node(0, 0, 0), number, at(0, i))
			leads(t, n, node(0, 0, 1), "0"+number, at(0, i))
			leads(t, n, node(0, 0b0110, 4), "0110"+number, at(0, i))
			fails(t, n, node(0, 0b0110, 4), "1110"+number, api.ErrLookupGuard)
		}
	}
}

func TestP61MoreNodes(t *testing.T) {
	n := some(t)
	root := node(0, 1, 1)
	leads(t, n, root, "1 01 101 111", at(1, 7))
	leads(t, n, root, "1 01 101 110 10", at(0, 2))
	leads(t, n, root, "1 01 101 000 11111111", at(2, 255))
	leads(t, n, root, "1 01 101 000 11111111 0", at(3, 0))
	leads(t, n, root, "1 01 101 111 01 1 1 1 0", at(3, 0))
	leads(t, n, root, "1 01 101 110 01 101 000 00001001 1 01 101 111 01 1", at(3, 1))
	leads(t, n, root, "1 01 101 110 11", at(0, 3))
	leads(t, n, root, "1 11", at(0, 3))
	leads(t, n, root, "1 00", at(0, 0))
	leads(t, n, root, "1 01", at(0, 1))
	leads(t, n, node(2, 0, 0), "00001001", at(2, 9))
	leads(t, n, node(2, 0, 0), "00001001 1 10", at(0, 2))
}

func TestP61Depth(t *testing.T) {
	n := one(t, 1)
	put(t, n, at(0, 1), node(0, 0, 0))
	leads(t, n, node(0, 0, 0), "0", at(0, 0))
	leads(t, n, node(0, 0, 0), "1", at(0, 1))
	for depth := 1; depth <= 64; depth++ {
		ways := strings.Repeat("1", depth-1)
		leads(t, n, node(0, 0, 0), ways+"0", at(0, 0))
		leads(t, n, node(0, 0, 0), ways+"1", at(0, 1))
	}
	for _, depth := range append([]int{0, 65, 66, 127, 128, 129, 256}, far...) {
		for _, addr := range []uint64{0, 1, allBits} {
			finds(t, n, node(0, 0, 0), addr, depth, api.Slot{}, api.ErrArg)
		}
	}
}

// TestP61ArgFirst: of a depth that may not be nothing else matters.
func TestP61ArgFirst(t *testing.T) {
	n := some(t)
	for _, depth := range []int{0, 65, -1, math.MinInt, math.MaxInt} {
		for _, root := range slices.Concat(others, unlawful, []api.Cap{node(4, 0, 0), node(5, 0, 0), node(0, 0, 64), node(0, 1, 1)}) {
			finds(t, n, root, 0, depth, api.Slot{}, api.ErrArg)
		}
	}
}

func TestP61RootKind(t *testing.T) {
	n := some(t)
	for _, root := range slices.Concat(others, unlawful) {
		for _, depth := range []int{1, 2, 3, 64} {
			finds(t, n, root, 0, depth, api.Slot{}, api.ErrLookupKind)
			finds(t, n, root, allBits, depth, api.Slot{}, api.ErrLookupKind)
		}
	}
	for _, obj := range []int{4, 5, 63, 64, 1<<31 - 1} {
		fails(t, n, node(obj, 0, 0), "00", api.ErrLookupKind)
		fails(t, n, node(obj, 1, 1), "1 00", api.ErrLookupKind)
	}
	fails(t, slots.New(), node(0, 0, 0), "0", api.ErrLookupKind)
}

// TestP61KindOnTheWay: a node that a slot on the way is to may be gone, or never have been.
func TestP61KindOnTheWay(t *testing.T) {
	n := some(t)
	root := node(0, 1, 1)
	fails(t, n, root, "1 11 0", api.ErrLookupKind)
	fails(t, n, root, "1 11 00", api.ErrLookupKind)
	fails(t, n, root, "1 01 101 001 0", api.ErrLookupKind)
	fails(t, n, root, "1 01 101 110 11 0000", api.ErrLookupKind)
}

// TestP61NoNodeOnTheWay: a slot with bits behind it must have a node's capability.
func TestP61NoNodeOnTheWay(t *testing.T) {
	for _, c := range others {
		n := one(t, 1)
		if c != none {
			put(t, n, at(0, 1), c)
		}
		leads(t, n, node(0, 0, 0), "1", at(0, 1))
		for _, behind := range []string{"0", "1", "0000", strings.Repeat("1", 63)} {
			fails(t, n, node(0, 0, 0), "1"+behind, api.ErrLookupDepth)
		}
	}
	n := some(t)
	fails(t, n, node(0, 1, 1), "1 01 101 010 0", api.ErrLookupDepth)
	fails(t, n, node(0, 1, 1), "1 01 101 011 0", api.ErrLookupDepth)
	fails(t, n, node(0, 1, 1), "1 01 101 000 00000000 1", api.ErrLookupDepth)
}

func TestP61Guard(t *testing.T) {
	n := one(t, 1)
	for bits := 1; bits <= 63; bits++ {
		top := uint64(1) << (bits - 1)
		for _, guard := range []uint64{0, 1, top, top - 1, top - 1 + top} {
			root := node(0, guard, bits)
			leads(t, n, root, text(guard, bits)+"0", at(0, 0))
			leads(t, n, root, text(guard, bits)+"1", at(0, 1))
			for b := range bits {
				fails(t, n, root, text(guard^1<<b, bits)+"1", api.ErrLookupGuard)
			}
		}
	}
}

// TestP61GuardOfAllLeft: such a guard leaves no bit for the node; one of a bit more is not there.
func TestP61GuardOfAllLeft(t *testing.T) {
	n := one(t, 1)
	put(t, n, at(0, 1), node(0, 0, 0))
	for bits := 1; bits <= 64; bits++ {
		for _, guard := range []uint64{0, 1, allBits >> (64 - bits)} {
			fails(t, n, node(0, guard, bits), text(guard, bits), api.ErrLookupDepth)
			fails(t, n, node(0, guard, bits), text(guard^1, bits), api.ErrLookupGuard)
			if bits > 1 {
				fails(t, n, node(0, guard, bits), text(guard, bits)[1:], api.ErrLookupGuard)
				fails(t, n, node(0, guard, bits), text(guard, bits)[:bits-1], api.ErrLookupGuard)
			}
		}
	}
}

func TestP61FewerBitsThanTheGuards(t *testing.T) {
	n := some(t)
	for depth := 1; depth < 64; depth++ {
		finds(t, n, node(0, 0, 64), 0, depth, api.Slot{}, api.ErrLookupGuard)
		finds(t, n, node(0, 0, depth+1), 0, depth, api.Slot{}, api.ErrLookupGuard)
		finds(t, n, node(0, allBits, 64), allBits, depth, api.Slot{}, api.ErrLookupGuard)
	}
	fails(t, n, node(0, 1, 1), "1 01 1", api.ErrLookupGuard)
	fails(t, n, node(0, 1, 1), "1 01 10", api.ErrLookupGuard)
	fails(t, n, node(0, 1, 1), "1 01 101", api.ErrLookupDepth)
	fails(t, n, node(0, 1, 1), "1 01 100 111", api.ErrLookupGuard)
}

func TestP61FewerBitsThanTheNodes(t *testing.T) {
	for size := 1; size <= 8; size++ {
		n := one(t, size)
		put(t, n, at(0, 0), node(0, 0, 0))
		for depth := 1; depth <= 64; depth++ {
			want := api.OK
			if depth%size != 0 {
				want = api.ErrLookupDepth
			}
			finds(t, n, node(0, 0, 0), 0, depth, at(0, 0), want)
		}
	}
	n := some(t)
	fails(t, n, node(0, 1, 1), "1 1", api.ErrLookupDepth)
	fails(t, n, node(0, 1, 1), "1 01 101 11", api.ErrLookupDepth)
	fails(t, n, node(0, 1, 1), "1 01 101 000 1111111", api.ErrLookupDepth)
}

// TestP61WhichError: the error is that of the first node where one is, of that node's the first one.
func TestP61WhichError(t *testing.T) {
	n := some(t)
	fails(t, n, node(4, 1, 1), "0", api.ErrLookupKind)
	fails(t, n, node(5, 0, 64), "0", api.ErrLookupKind)
	fails(t, n, node(0, 1, 1), "0", api.ErrLookupGuard)
	fails(t, n, node(0, 0b11, 2), "01 1", api.ErrLookupGuard)
	fails(t, n, node(0, 1, 1), "0 11 0", api.ErrLookupGuard)
	fails(t, n, node(0, 1, 1), "1 10 101", api.ErrLookupDepth)
	fails(t, n, node(0, 1, 1), "1 01 100 001 0", api.ErrLookupGuard)
	fails(t, n, node(0, 1, 1), "1 01 111 1", api.ErrLookupGuard)
	fails(t, n, node(0, 1, 1), "1 01 101 111 00 1", api.ErrLookupGuard)
	fails(t, n, node(0, 1, 1), "1 01 101 111 01 0 1", api.ErrLookupDepth)
}

// TestP61AsText goes over all addresses of few bits, from many roots.
func TestP61AsText(t *testing.T) {
	n := some(t)
	was := told(n)
	for _, root := range []api.Cap{node(0, 0, 0), node(0, 1, 1), node(1, 0, 0), node(1, 5, 3), node(2, 0, 0), node(3, 0, 0), node(3, 0b01, 2), node(3, 0, 9), node(4, 0, 0), end} {
		for depth := 1; depth <= 12; depth++ {
			for addr := range uint64(1) << depth {
				want, wantE := slotOf(n, root, text(addr, depth))
				if s, e := lookup.Slot(n, root, addr, depth); s != want || e != wantE {
					t.Fatalf("Slot(%+v, %b, %d) = %v, %d, not %v, %d", root, addr, depth, s, e, want, wantE)
				}
			}
		}
	}
	stays(t, n, was)
}

func TestP62Cap(t *testing.T) {
	n := some(t)
	root := node(0, 1, 1)
	for _, x := range []struct {
		address string
		want    api.Cap
		e       api.Errno
	}{
		{"1 00", none, api.OK},
		{"1 01", node(1, 0b101, 3), api.OK},
		{"1 10", end, api.OK},
		{"1 11", node(4, 0, 0), api.OK},
		{"1 01 101 010", thread, api.OK},
		{"1 01 101 011", none, api.OK},
		{"1 01 101 000 11111111", node(3, 0, 0), api.OK},
		{"1 01 101 111 01 0", end, api.OK},
		{"", none, api.ErrArg},
		{"0 10", none, api.ErrLookupGuard},
		{"1 01 10", none, api.ErrLookupGuard},
		{"1 1", none, api.ErrLookupDepth},
		{"1 10 1", none, api.ErrLookupDepth},
		{"1 00 1", none, api.ErrLookupDepth},
		{"1 11 0", none, api.ErrLookupKind},
	} {
		addr, depth := read(t, x.address)
		if c, e := lookup.Cap(n, root, addr, depth); c != x.want || e != x.e {
			t.Errorf("Cap(%s) = %+v, %d, not %+v, %d", x.address, c, e, x.want, x.e)
		}
	}
	if c, e := lookup.Cap(n, end, 0, 3); c != none || e != api.ErrLookupKind {
		t.Errorf("Cap of an endpoint = %+v, %d", c, e)
	}
}

func TestP62EveryKind(t *testing.T) {
	for _, c := range append([]api.Cap{node(7, 3, 2), node(0, allBits, 64)}, others...) {
		for _, s := range []api.Slot{at(0, 0), at(0, 5), at(0, 7)} {
			n := one(t, 3)
			if c != none {
				put(t, n, s, c)
			}
			if got, e := lookup.Cap(n, node(0, 0, 0), uint64(s.I), 3); got != c || e != api.OK {
				t.Errorf("Cap(%v) = %+v, %d, not %+v", s, got, e, c)
			}
		}
	}
}

// TestP62Now: what is told is what the slot has when it is asked.
func TestP62Now(t *testing.T) {
	n := one(t, 1)
	root := node(0, 0, 0)
	leads(t, n, root, "1", at(0, 1))
	fails(t, n, root, "1 0", api.ErrLookupDepth)
	put(t, n, at(0, 1), node(0, 1, 1))
	leads(t, n, root, "1", at(0, 1))
	leads(t, n, root, "1 1 0", at(0, 0))
	if c, e := n.Take(at(0, 1)); c != node(0, 1, 1) || e != api.OK {
		t.Fatalf("Take = %+v, %d", c, e)
	}
	fails(t, n, root, "1 1 0", api.ErrLookupDepth)
	if e := n.Drop(0); e != api.OK {
		t.Fatalf("Drop answers %d", e)
	}
	fails(t, n, root, "1", api.ErrLookupKind)
	tellsNone(t, n, root, api.ErrLookupKind, 1)
}

func TestP63Address(t *testing.T) {
	n := some(t)
	root := node(0, 1, 1)
	tells(t, n, root, "1 10", 2)
	tells(t, n, root, "1 11", 3)
	tells(t, n, root, "1 01 101 111", 1, 7)
	tells(t, n, root, "1 01 101 110 10", 1, 6, 2)
	tells(t, n, root, "1 01 101 000 11111111 0", 1, 0, 255, 0)
	tells(t, n, root, "1 01 101 111 01 1 1 1 0", 1, 7, 1, 1, 1, 0)
	tells(t, n, root, "1 01 101 110 01 101 000 00001001 1 01 101 111 01 1", 1, 6, 1, 0, 9, 1, 7, 1)
	tells(t, n, node(0, 0, 0), "10", 2)
	tells(t, n, node(0, 0b0010, 4), "0010 00", 0)
}

func TestP63OneNumber(t *testing.T) {
	for size := 1; size <= 8; size++ {
		n := one(t, size)
		for _, guard := range []string{"", "0", "1", "0010", strings.Repeat("1", 64-size), strings.Repeat("0", 64-size)} {
			v, bits := read(t, guard)
			root := node(0, v, bits)
			for i := range 1 << size {
				tells(t, n, root, guard+text(uint64(i), size), i)
			}
			for _, i := range append([]int{-1, 1 << size, 1<<size + 1, 256, 1<<size - 1<<32, 65536}, far...) {
				tellsNone(t, n, root, api.ErrSlotsNone, i)
			}
		}
	}
}

func TestP63Empty(t *testing.T) {
	n := some(t)
	for _, root := range slices.Concat(others, unlawful, []api.Cap{node(0, 0, 0), node(0, 0, 64), node(4, 0, 0)}) {
		tellsNone(t, n, root, api.ErrArg)
		tellsNone(t, n, root, api.ErrArg, []int{}...)
		tellsNone(t, n, root, api.ErrArg, []int{1, 2}[:0]...)
	}
}

func TestP63RootKind(t *testing.T) {
	n := some(t)
	for _, root := range slices.Concat(others, unlawful, []api.Cap{node(4, 0, 0), node(5, 0, 0), node(63, 0, 0), node(1<<31-1, 0, 0)}) {
		for _, i := range []int{0, 1, 300, -1} {
			tellsNone(t, n, root, api.ErrLookupKind, i)
			tellsNone(t, n, root, api.ErrLookupKind, i, 0)
		}
	}
	tellsNone(t, slots.New(), node(0, 0, 0), api.ErrLookupKind, 0)
}

// TestP63KindOnTheWay: all but the last slot must have a node's capability, to one that is there.
func TestP63KindOnTheWay(t *testing.T) {
	for _, c := range append([]api.Cap{node(1, 0, 0), node(1<<31-1, 0, 0)}, others...) {
		n := one(t, 1)
		if c != none {
			put(t, n, at(0, 1), c)
		}
		tells(t, n, node(0, 0, 0), "1", 1)
		for _, i := range []int{0, 1, 2, -1} {
			tellsNone(t, n, node(0, 0, 0), api.ErrLookupKind, 1, i)
			tellsNone(t, n, node(0, 0, 0), api.ErrLookupKind, 1, i, 0)
		}
	}
	n := some(t)
	tellsNone(t, n, node(0, 1, 1), api.ErrLookupKind, 3, 0)
	tellsNone(t, n, node(0, 1, 1), api.ErrLookupKind, 1, 1, 0)
	tellsNone(t, n, node(0, 1, 1), api.ErrLookupKind, 1, 3, 0)
}

func TestP63NumbersOnTheWay(t *testing.T) {
	n := some(t)
	for _, i := range append([]int{8, 9, 256}, far...) {
		tellsNone(t, n, node(0, 1, 1), api.ErrSlotsNone, 1, i)
		tellsNone(t, n, node(0, 1, 1), api.ErrSlotsNone, 1, i, 0)
	}
	tells(t, n, node(0, 1, 1), "1 01 101 000 11111111", 1, 0, 255)
	tellsNone(t, n, node(0, 1, 1), api.ErrSlotsNone, 1, 0, 256)
	tellsNone(t, n, node(0, 1, 1), api.ErrSlotsNone, 1, 7, 2)
}

func TestP63Depth(t *testing.T) {
	n := one(t, 1)
	put(t, n, at(0, 1), node(0, 0, 0))
	for bits := range 65 {
		root := node(0, allBits>>(64-bits), bits)
		for count := 1; count <= 70; count++ {
			way := slices.Repeat([]int{1}, count)
			way[count-1] = 0
			if bits+count <= 64 {
				tells(t, n, root, strings.Repeat("1", bits+count-1)+"0", way...)
			} else {
				tellsNone(t, n, root, api.ErrLookupDepth, way...)
			}
		}
	}
	tellsNone(t, n, node(0, 0, 0), api.ErrLookupDepth, slices.Repeat([]int{1}, 1<<20)...)
}

// TestP63DepthByNodes: a guard alone can be too much, as can a node's bits behind it, by one bit or many.
func TestP63DepthByNodes(t *testing.T) {
	for _, x := range []struct{ first, guard, size int }{
		{0, 64, 1}, {0, 57, 8}, {0, 63, 2}, {1, 62, 1}, {1, 64, 8}, {40, 22, 1}, {40, 15, 8}, {61, 0, 2}, {62, 0, 1}, {62, 64, 8}, {54, 0, 8},
	} {
		n := one(t, 1)
		if id, e := n.Make(x.size); id != 1 || e != api.OK {
			t.Fatalf("Make = %d, %d", id, e)
		}
		put(t, n, at(0, 1), node(1, 0, x.guard))
		total := x.first + 1 + x.guard + x.size
		if total <= 64 {
			tells(t, n, node(0, 0, x.first), text(1, x.first+1)+text(0, x.guard+x.size), 1, 0)
		} else {
			tellsNone(t, n, node(0, 0, x.first), api.ErrLookupDepth, 1, 0)
		}
		tellsNone(t, n, node(0, 0, x.first), api.ErrSlotsNone, 1, 1<<x.size)
	}
}

// TestP63WhichError: the error is that of the first node where one is, of that node's the first one.
func TestP63WhichError(t *testing.T) {
	n := some(t)
	deep := node(0, 0, 63)
	tellsNone(t, n, node(4, 0, 64), api.ErrLookupKind, 0)
	tellsNone(t, n, node(0, 0, 65), api.ErrLookupKind, -1)
	tellsNone(t, n, deep, api.ErrSlotsNone, 4)
	tellsNone(t, n, deep, api.ErrSlotsNone, -1, 0)
	tellsNone(t, n, deep, api.ErrLookupDepth, 0)
	tellsNone(t, n, deep, api.ErrLookupDepth, 0, 0)
	tellsNone(t, n, deep, api.ErrLookupDepth, 1, 8)
	tellsNone(t, n, deep, api.ErrLookupDepth, 3, -1)
	full := node(0, 0, 62)
	tells(t, n, full, strings.Repeat("0", 62)+"01", 1)
	tellsNone(t, n, full, api.ErrLookupDepth, 1, 7)
	tellsNone(t, n, full, api.ErrSlotsNone, 1, 8)
	tellsNone(t, n, full, api.ErrLookupKind, 2, 8)
	tellsNone(t, n, full, api.ErrLookupKind, 3, 0)
	tellsNone(t, n, full, api.ErrLookupDepth, 1, 1, 0)
	tellsNone(t, n, node(0, 1, 1), api.ErrSlotsNone, 4, 0)
	tellsNone(t, n, node(0, 1, 1), api.ErrLookupKind, 0, 4)
}

// TestP63WayStays: the list is its owner's, and so is the room behind it.
func TestP63WayStays(t *testing.T) {
	n := some(t)
	for _, count := range []int{1, 3, 4} {
		room := []int{1, 6, 2, 77, 78, 79}
		lookup.Address(n, node(0, 1, 1), room[:count])
		if !slices.Equal(room, []int{1, 6, 2, 77, 78, 79}) {
			t.Errorf("of %d numbers the list is now %v", count, room)
		}
	}
}

// ways are all of at most so many numbers, each one from -1 to 8, or at node 2's end.
func ways(longest int) [][]int {
	l := [][]int{nil}
	for from := 0; longest > 0; longest-- {
		to := len(l)
		for _, w := range l[from:to] {
			for _, i := range []int{-1, 0, 1, 2, 3, 4, 6, 7, 8, 9, 255, 256} {
				l = append(l, append(slices.Clone(w), i))
			}
		}
		from = to
	}
	return l
}

// agrees holds Address to the chapter's words, and what it tells to Slot and Cap.
func agrees(t *testing.T, n *slots.Nodes, root api.Cap, way []int) api.Errno {
	t.Helper()
	want, last, wantE := addressOf(n, root, way)
	if wantE != api.OK {
		tellsNone(t, n, root, wantE, way...)
		return wantE
	}
	tells(t, n, root, want, way...)
	a, d, _ := lookup.Address(n, root, way)
	finds(t, n, root, a, d, last, api.OK)
	return api.OK
}

func TestP64SlotTakesWhatAddressTells(t *testing.T) {
	n := some(t)
	was := told(n)
	count := map[api.Errno]int{}
	for _, root := range []api.Cap{node(0, 1, 1), node(1, 0, 0), node(2, 0b011, 3), node(3, 0, 50), node(0, 0, 62), node(4, 0, 0)} {
		for _, way := range ways(4) {
			count[agrees(t, n, root, way)]++
		}
	}
	for _, e := range []api.Errno{api.OK, api.ErrArg, api.ErrLookupKind, api.ErrSlotsNone, api.ErrLookupDepth} {
		if count[e] == 0 {
			t.Errorf("no way answers %d", e)
		}
	}
	stays(t, n, was)
}

// pick is a row of numbers that is the same at every run.
type pick uint64

func (p *pick) next(n int) int {
	*p = *p*6364136223846793005 + 1442695040888963407
	return int(*p>>33) % n
}

// cap is one to a node most often, sometimes to one that is not there, now and then with a long guard.
func (p *pick) cap(nodes int) api.Cap {
	if p.next(8) == 0 {
		return others[1+p.next(len(others)-1)]
	}
	bits := []int{0, 0, 0, 1, 1, 2, 3, 7, 20, 33}[p.next(10)]
	guard := (uint64(p.next(1<<31))<<31 | uint64(p.next(1<<31))) & (1<<bits - 1)
	return node(p.next(nodes+1), guard, bits)
}

// nodes are some of few bits, most of whose slots have a capability.
func (p *pick) nodes(t *testing.T) *slots.Nodes {
	t.Helper()
	n := slots.New()
	count := 1 + p.next(6)
	for node := range count {
		size := 1 + p.next(4)
		n.Make(size)
		for i := range 1 << size {
			if p.next(5) > 0 {
				put(t, n, at(node, i), p.cap(count))
			}
		}
	}
	return n
}

// way goes along slots that are there, most often, and through nodes.
func (p *pick) way(n *slots.Nodes, root api.Cap) []int {
	var way []int
	c := root
	for range 1 + p.next(24) {
		size, _ := n.Size(c.Obj)
		i := p.next(1 << size)
		for range 1 << size {
			x, _ := n.Get(at(c.Obj, i))
			if _, is := n.Size(x.Obj); is && x.Kind == api.CapNode {
				break
			}
			i = (i + 1) % (1 << size)
		}
		if p.next(20) == 0 {
			i = p.next(20) - 2
		}
		way = append(way, i)
		c, _ = n.Get(at(c.Obj, i))
	}
	return way
}

// near is an address, or one that is off by a bit, or ends too early, or goes on.
func (p *pick) near(address string) string {
	b := []byte(address)
	switch p.next(4) {
	case 0:
		b[p.next(len(b))] ^= 1
	case 1:
		b = b[:p.next(len(b))+1]
	case 2:
		b = append(b, "0110100110010110"[:p.next(16)]...)
	}
	return string(b[:min(len(b), 64)])
}

// TestP64ManyNodes holds all three calls to the chapter's words, over many nodes and ways.
func TestP64ManyNodes(t *testing.T) {
	p := pick(1)
	found, count := map[api.Errno]int{}, map[api.Errno]int{}
	for range 400 {
		n := p.nodes(t)
		was := told(n)
		for range 25 {
			root := p.cap(2)
			way := p.way(n, root)
			e := agrees(t, n, root, way)
			count[e]++
			address, _, _ := addressOf(n, root, way)
			if e != api.OK {
				address = text(uint64(p.next(1<<31)), 1+p.next(31))
			}
			address = p.near(address)
			want, wantE := slotOf(n, root, address)
			addr, depth := read(t, address)
			finds(t, n, root, addr, depth, want, wantE)
			found[wantE]++
		}
		stays(t, n, was)
	}
	for _, e := range []api.Errno{api.OK, api.ErrLookupKind, api.ErrSlotsNone, api.ErrLookupDepth} {
		if count[e] < 50 {
			t.Errorf("Address answers %d only %d times", e, count[e])
		}
	}
	for _, e := range []api.Errno{api.OK, api.ErrLookupKind, api.ErrLookupGuard, api.ErrLookupDepth} {
		if found[e] < 50 {
			t.Errorf("Slot answers %d only %d times", e, found[e])
		}
	}
}

// TestP64NodesStay: nothing that is asked changes nodes, nor a copy of them, nor what it would be told next.
func TestP64NodesStay(t *testing.T) {
	n := some(t)
	was := told(n)
	c := n.Copy()
	for range 2 {
		leads(t, n, node(0, 1, 1), "1 01 101 110 10", at(0, 2))
		fails(t, n, node(0, 1, 1), "0 01", api.ErrLookupGuard)
		fails(t, n, node(0, 1, 1), "1 00 1", api.ErrLookupDepth)
		fails(t, n, node(0, 1, 1), "1 11 1", api.ErrLookupKind)
		finds(t, n, node(0, 1, 1), 0, 65, api.Slot{}, api.ErrArg)
		tells(t, n, node(0, 1, 1), "1 01 101 110 10", 1, 6, 2)
		tellsNone(t, n, node(0, 1, 1), api.ErrSlotsNone, 1, 8)
		tellsNone(t, n, node(0, 1, 1), api.ErrLookupKind, 0, 0)
		stays(t, n, was)
		stays(t, c, was)
	}
	leads(t, c, node(0, 1, 1), "1 01 101 110 10", at(0, 2))
}

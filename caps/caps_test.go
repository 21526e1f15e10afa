package caps_test

import (
	"math"
	"testing"

	"buttress/api"
	"buttress/caps"
)

const (
	lastObj = 1<<31 - 1
	allBits = uint64(math.MaxUint64)
)

// far are numbers that no field of a capability may be; many have lowest bits that would be right ones.
var far = []int{-1, -2, -7, -8, -64, -256, 1<<31 + 4, 1<<32 + 4, 1<<32 + 7, 1<<47 + 2, 1 << 62, math.MinInt, math.MinInt + 7, math.MaxInt, math.MaxInt - 1}

// badges are of all sizes, and numbers are among them that rights or kinds are too.
var badges = []uint64{1, 2, 5, 7, 8, 1 << 31, 1 << 32, 1 << 63, allBits - 1, allBits}

// is says once more, from P4.1's words, which kinds there are, and of what kind they are.
type is struct {
	kind                     int
	limited, badged, guarded bool
}

var kinds = []is{
	{kind: api.CapUntyped},
	{kind: api.CapNode, guarded: true},
	{kind: api.CapThread},
	{kind: api.CapEndpoint, limited: true, badged: true},
	{kind: api.CapNotify, limited: true, badged: true},
	{kind: api.CapFrame, limited: true},
	{kind: api.CapTable},
	{kind: api.CapSpace},
	{kind: api.CapIrq},
}

// right are capabilities that may be: of all kinds, with fields at their edges.
func right() []api.Cap {
	l := []api.Cap{{}}
	for _, k := range kinds {
		for _, obj := range []int{0, 1, 2, 1 << 15, 1 << 30, lastObj} {
			for rights := range 8 {
				c := api.Cap{Kind: k.kind, Obj: obj, Rights: rights}
				if rights != 7 && !k.limited {
					continue
				}
				l = append(l, c)
				if k.badged {
					l = append(l, badged(c)...)
				}
				if k.guarded {
					l = append(l, guarded(c)...)
				}
			}
		}
	}
	return l
}

func badged(c api.Cap) []api.Cap {
	var l []api.Cap
	for _, b := range badges {
		c.Badge = b
		l = append(l, c)
	}
	return l
}

// guarded are all widths of a guard, with none of its bits 1, with its greatest one, with all.
func guarded(c api.Cap) []api.Cap {
	var l []api.Cap
	for bits := 1; bits <= 64; bits++ {
		top := uint64(1) << (bits - 1)
		for _, g := range []uint64{0, 1, top, top - 1 + top} {
			c.Guard, c.Bits = g, bits
			l = append(l, c)
		}
	}
	return l
}

// wrong are capabilities that may not be, each for one reason or more.
func wrong() []api.Cap {
	l := []api.Cap{
		{Obj: 1}, {Obj: -1}, {Obj: lastObj}, {Rights: 1}, {Rights: 7}, {Rights: -1}, {Badge: 1}, {Badge: allBits}, {Guard: 1}, {Guard: allBits}, {Bits: 1}, {Bits: -1}, {Bits: 64},
		{Guard: 1, Bits: 1}, {Rights: 7, Obj: 1, Badge: 1, Guard: 1, Bits: 1},
	}
	for _, n := range append([]int{10, 11, 15, 16, 18, 20, 64, 256 + 4}, far...) {
		l = append(l, api.Cap{Kind: n}, api.Cap{Kind: n, Rights: 7}, api.Cap{Kind: n, Rights: 7, Obj: 1})
	}
	for _, k := range kinds {
		l = append(l, spoilt(k)...)
	}
	return l
}

// spoilt are capabilities of one kind that would be right but for one field.
func spoilt(k is) []api.Cap {
	var l []api.Cap
	c := api.Cap{Kind: k.kind, Obj: 3, Rights: 7}
	with := func(change func(c *api.Cap)) {
		x := c
		change(&x)
		l = append(l, x)
	}
	for _, n := range append([]int{1 << 31, 1<<31 + 1, 1 << 32, 1<<32 + 3}, far...) {
		with(func(c *api.Cap) { c.Obj = n })
	}
	for _, n := range append([]int{8, 9, 15, 16, 23, 256 + 4}, far...) {
		with(func(c *api.Cap) { c.Rights = n })
	}
	for n := range 7 {
		if !k.limited {
			with(func(c *api.Cap) { c.Rights = n })
		}
	}
	for _, b := range badges {
		if !k.badged {
			with(func(c *api.Cap) { c.Badge = b })
		}
		if !k.guarded {
			with(func(c *api.Cap) { c.Guard = b })
			with(func(c *api.Cap) { c.Guard, c.Bits = b, 64 })
		}
	}
	for _, n := range append([]int{65, 66, 127, 128, 256 + 4}, far...) {
		with(func(c *api.Cap) { c.Bits = n })
		with(func(c *api.Cap) { c.Guard, c.Bits = 1, n })
	}
	for n := 1; n <= 64; n++ {
		if !k.guarded {
			with(func(c *api.Cap) { c.Bits = n })
		}
	}
	for bits := range 64 {
		with(func(c *api.Cap) { c.Guard, c.Bits = 1<<bits, bits })
		with(func(c *api.Cap) { c.Guard, c.Bits = 1<<63, bits })
		with(func(c *api.Cap) { c.Guard, c.Bits = allBits, bits })
	}
	return l
}

func TestP41Check(t *testing.T) {
	for _, c := range right() {
		if e := caps.Check(c); e != api.OK {
			t.Fatalf("Check(%+v) = %d, not OK", c, e)
		}
	}
	for _, c := range wrong() {
		if e := caps.Check(c); e != api.ErrCapsForm {
			t.Fatalf("Check(%+v) = %d, not ErrCapsForm", c, e)
		}
	}
}

func TestP41CheckEdges(t *testing.T) {
	node := api.Cap{Kind: 2, Rights: 7}
	end := api.Cap{Kind: 4}
	for _, x := range []struct {
		name string
		c    api.Cap
		want api.Errno
	}{
		{"no capability", api.Cap{}, api.OK},
		{"kind 9", api.Cap{Kind: 9, Rights: 7}, api.OK},
		{"kind 10", api.Cap{Kind: 10, Rights: 7}, api.ErrCapsForm},
		{"kind -1", api.Cap{Kind: -1, Rights: 7}, api.ErrCapsForm},
		{"object 2^31 - 1", api.Cap{Kind: 1, Obj: 2147483647, Rights: 7}, api.OK},
		{"object 2^31", api.Cap{Kind: 1, Obj: 2147483648, Rights: 7}, api.ErrCapsForm},
		{"object -1", api.Cap{Kind: 1, Obj: -1, Rights: 7}, api.ErrCapsForm},
		{"limited, no rights", end, api.OK},
		{"limited, rights 8", api.Cap{Kind: 4, Rights: 8}, api.ErrCapsForm},
		{"limited, rights -1", api.Cap{Kind: 4, Rights: -1}, api.ErrCapsForm},
		{"not limited, no rights", api.Cap{Kind: 3}, api.ErrCapsForm},
		{"not limited, rights 6", api.Cap{Kind: 3, Rights: 6}, api.ErrCapsForm},
		{"not limited, rights 15", api.Cap{Kind: 3, Rights: 15}, api.ErrCapsForm},
		{"guard of 0 bits", node, api.OK},
		{"guard below bits", api.Cap{Kind: 2, Rights: 7, Guard: 1 << 4, Bits: 5}, api.OK},
		{"guard at bits", api.Cap{Kind: 2, Rights: 7, Guard: 1 << 5, Bits: 5}, api.ErrCapsForm},
		{"guard at 0 bits", api.Cap{Kind: 2, Rights: 7, Guard: 1}, api.ErrCapsForm},
		{"guard below 64 bits", api.Cap{Kind: 2, Rights: 7, Guard: 1 << 63, Bits: 64}, api.OK},
		{"guard at 63 bits", api.Cap{Kind: 2, Rights: 7, Guard: 1 << 63, Bits: 63}, api.ErrCapsForm},
		{"65 bits", api.Cap{Kind: 2, Rights: 7, Bits: 65}, api.ErrCapsForm},
		{"-1 bits", api.Cap{Kind: 2, Rights: 7, Bits: -1}, api.ErrCapsForm},
		{"badged node", api.Cap{Kind: 2, Rights: 7, Badge: 1}, api.ErrCapsForm},
		{"badged frame", api.Cap{Kind: 6, Rights: 7, Badge: 1}, api.ErrCapsForm},
		{"badged notification", api.Cap{Kind: 5, Rights: 2, Badge: allBits}, api.OK},
	} {
		if e := caps.Check(x.c); e != x.want {
			t.Errorf("%s: Check(%+v) = %d, not %d", x.name, x.c, e, x.want)
		}
	}
}

func TestP42Same(t *testing.T) {
	end := api.Cap{Kind: api.CapEndpoint, Obj: 4, Rights: 7}
	for _, x := range []struct {
		a, b api.Cap
		want bool
	}{
		{end, end, true},
		{end, api.Cap{Kind: api.CapEndpoint, Obj: 4, Rights: 1, Badge: 6}, true},
		{end, api.Cap{Kind: api.CapEndpoint, Obj: 5, Rights: 7}, false},
		{end, api.Cap{Kind: api.CapNotify, Obj: 4, Rights: 7}, false},
		{end, api.Cap{}, false},
		{api.Cap{}, api.Cap{}, false},
		{api.Cap{Obj: 4}, api.Cap{Obj: 4}, false},
		{api.Cap{Kind: api.CapNode, Rights: 7}, api.Cap{Kind: api.CapNode, Rights: 7, Guard: 1, Bits: 1}, true},
		{api.Cap{Kind: api.CapIrq, Obj: lastObj, Rights: 7}, api.Cap{Kind: api.CapIrq, Obj: lastObj, Rights: 7}, true},
		{api.Cap{Kind: api.CapIrq, Obj: 0, Rights: 7}, api.Cap{Kind: api.CapIrq, Obj: lastObj, Rights: 7}, false},
		{api.Cap{Kind: api.CapIrq, Obj: 1}, api.Cap{Kind: api.CapIrq, Obj: 1 + 1<<32}, false},
	} {
		if caps.Same(x.a, x.b) != x.want || caps.Same(x.b, x.a) != x.want {
			t.Errorf("Same(%+v, %+v) is not %v both ways", x.a, x.b, x.want)
		}
	}
	for a := range api.CapKinds {
		for b := range api.CapKinds {
			if caps.Same(api.Cap{Kind: a, Obj: 2}, api.Cap{Kind: b, Obj: 2}) != (a == b && a != 0) {
				t.Errorf("Same of kinds %d and %d", a, b)
			}
		}
	}
}

// TestP42DerivesRights goes through the rights of both, each right for itself.
func TestP42DerivesRights(t *testing.T) {
	for p := range 8 {
		for c := range 8 {
			want := true
			for _, r := range []int{api.Read, api.Write, api.Grant} {
				if c&r != 0 && p&r == 0 {
					want = false
				}
			}
			parent, child := api.Cap{Kind: api.CapFrame, Obj: 1, Rights: p}, api.Cap{Kind: api.CapFrame, Obj: 1, Rights: c}
			if caps.Derives(parent, child) != want {
				t.Errorf("rights %d of rights %d: Derives is not %v", c, p, want)
			}
		}
	}
}

func TestP42DerivesBadge(t *testing.T) {
	for _, kind := range []int{api.CapEndpoint, api.CapNotify} {
		for _, p := range append([]uint64{0}, badges...) {
			for _, c := range append([]uint64{0}, badges...) {
				want := p == 0 || p == c
				if caps.Derives(api.Cap{Kind: kind, Rights: 7, Badge: p}, api.Cap{Kind: kind, Rights: 3, Badge: c}) != want {
					t.Errorf("badge %d of badge %d: Derives is not %v", c, p, want)
				}
			}
		}
	}
}

func TestP42DerivesSame(t *testing.T) {
	frame := api.Cap{Kind: api.CapFrame, Obj: 3, Rights: 7}
	for _, x := range []struct {
		p, c api.Cap
		want bool
	}{
		{frame, frame, true},
		{frame, api.Cap{Kind: api.CapFrame, Obj: 2, Rights: 1}, false},
		{frame, api.Cap{Kind: api.CapNotify, Obj: 3, Rights: 1}, false},
		{frame, api.Cap{}, false},
		{api.Cap{}, frame, false},
		{api.Cap{}, api.Cap{}, false},
		{api.Cap{Kind: api.CapNode, Rights: 7, Guard: 1, Bits: 2}, api.Cap{Kind: api.CapNode, Rights: 7, Guard: 6, Bits: 3}, true},
		{api.Cap{Kind: api.CapThread, Rights: 7}, api.Cap{Kind: api.CapThread, Rights: 7}, true},
	} {
		if caps.Derives(x.p, x.c) != x.want {
			t.Errorf("Derives(%+v, %+v) is not %v", x.p, x.c, x.want)
		}
	}
}

func TestP43MintExample(t *testing.T) {
	end := api.Cap{Kind: api.CapEndpoint, Obj: 8, Rights: api.All}
	minted(t, end, api.Read, 5, api.Cap{Kind: api.CapEndpoint, Obj: 8, Rights: api.Read, Badge: 5}, api.OK)
	minted(t, api.Cap{Kind: api.CapEndpoint, Obj: 8, Rights: api.Read, Badge: 5}, api.All, 6, api.Cap{}, api.ErrCapsRight)
}

func minted(t *testing.T, c api.Cap, rights int, badge uint64, want api.Cap, wantE api.Errno) {
	t.Helper()
	if got, e := caps.Mint(c, rights, badge); got != want || e != wantE {
		t.Fatalf("Mint(%+v, %d, %d) = %+v, %d, not %+v, %d", c, rights, badge, got, e, want, wantE)
	}
}

// TestP43MintRights: of limited ones the rights that both have, of all others All.
func TestP43MintRights(t *testing.T) {
	for _, k := range kinds {
		for has := range 8 {
			if has != api.All && !k.limited {
				continue
			}
			for rights := range 8 {
				c := api.Cap{Kind: k.kind, Obj: 7, Rights: has}
				want := c
				for _, r := range []int{api.Read, api.Write, api.Grant} {
					if k.limited && rights&r == 0 && has&r != 0 {
						want.Rights -= r
					}
				}
				minted(t, c, rights, 0, want, api.OK)
			}
		}
	}
}

func TestP43MintBadge(t *testing.T) {
	for _, k := range kinds {
		for _, b := range badges {
			c := api.Cap{Kind: k.kind, Obj: lastObj, Rights: api.All}
			if !k.badged {
				minted(t, c, 7, b, api.Cap{}, api.ErrCapsRight)
				minted(t, c, 0, b, api.Cap{}, api.ErrCapsRight)
				continue
			}
			with := c
			with.Badge = b
			minted(t, c, 7, b, with, api.OK)
			minted(t, with, 7, 0, with, api.OK)
			minted(t, with, 7, b, api.Cap{}, api.ErrCapsRight)
			minted(t, with, 7, b^1|2, api.Cap{}, api.ErrCapsRight)
			with.Rights = api.Write
			minted(t, c, api.Write, b, with, api.OK)
		}
	}
}

func TestP43MintKeeps(t *testing.T) {
	node := api.Cap{Kind: api.CapNode, Obj: 2, Rights: 7, Guard: 5, Bits: 3}
	minted(t, node, 7, 0, node, api.OK)
	minted(t, node, 0, 0, node, api.OK)
	minted(t, node, 7, 1, api.Cap{}, api.ErrCapsRight)
	notify := api.Cap{Kind: api.CapNotify, Obj: 2, Rights: 6, Badge: 9}
	minted(t, notify, 3, 0, api.Cap{Kind: api.CapNotify, Obj: 2, Rights: 2, Badge: 9}, api.OK)
}

// TestP43MintErrors: where more than one error fits, the one that P4.3 names first.
func TestP43MintErrors(t *testing.T) {
	end := api.Cap{Kind: api.CapEndpoint, Rights: 7}
	frame := api.Cap{Kind: api.CapFrame, Rights: 7}
	badged := api.Cap{Kind: api.CapEndpoint, Rights: 7, Badge: 1}
	for _, rights := range append([]int{8, 9, 15, 256 + 4}, far...) {
		for _, badge := range []uint64{0, 3} {
			minted(t, end, rights, badge, api.Cap{}, api.ErrArg)
			minted(t, frame, rights, badge, api.Cap{}, api.ErrArg)
			minted(t, badged, rights, badge, api.Cap{}, api.ErrArg)
			minted(t, api.Cap{}, rights, badge, api.Cap{}, api.ErrArg)
		}
	}
	for rights := range 8 {
		for _, badge := range []uint64{0, 3} {
			minted(t, api.Cap{}, rights, badge, api.Cap{}, api.ErrCapsRight)
		}
	}
	for _, c := range wrong() {
		for _, rights := range []int{0, 7, 8, -1} {
			minted(t, c, rights, 0, api.Cap{}, api.ErrCapsForm)
			minted(t, c, rights, 1, api.Cap{}, api.ErrCapsForm)
		}
	}
}

func guards(t *testing.T, c api.Cap, guard uint64, bits int, want api.Cap, wantE api.Errno) {
	t.Helper()
	if got, e := caps.Guarded(c, guard, bits); got != want || e != wantE {
		t.Fatalf("Guarded(%+v, %#x, %d) = %+v, %d, not %+v, %d", c, guard, bits, got, e, want, wantE)
	}
}

func TestP43Guarded(t *testing.T) {
	bare := api.Cap{Kind: api.CapNode, Obj: 6, Rights: 7}
	for _, want := range append(guarded(bare), bare) {
		guards(t, bare, want.Guard, want.Bits, want, api.OK)
		guards(t, api.Cap{Kind: api.CapNode, Obj: 6, Rights: 7, Guard: 5, Bits: 3}, want.Guard, want.Bits, want, api.OK)
	}
	for bits := range 64 {
		guards(t, bare, 1<<bits, bits, api.Cap{}, api.ErrArg)
		guards(t, bare, 1<<63, bits, api.Cap{}, api.ErrArg)
		guards(t, bare, allBits, bits, api.Cap{}, api.ErrArg)
	}
	for _, bits := range append([]int{65, 66, 128, 256 + 4}, far...) {
		guards(t, bare, 0, bits, api.Cap{}, api.ErrArg)
		guards(t, bare, 1, bits, api.Cap{}, api.ErrArg)
	}
}

// TestP43GuardedErrors: where more than one error fits, the one that P4.3 names first.
func TestP43GuardedErrors(t *testing.T) {
	for _, x := range []struct {
		guard uint64
		bits  int
	}{{0, 0}, {1, 1}, {allBits, 64}, {1, 0}, {0, 65}, {0, -1}} {
		for _, c := range right() {
			if c.Kind != api.CapNode {
				guards(t, c, x.guard, x.bits, api.Cap{}, api.ErrCapsRight)
			}
		}
		for _, c := range wrong() {
			guards(t, c, x.guard, x.bits, api.Cap{}, api.ErrCapsForm)
		}
	}
}

func TestP44Pack(t *testing.T) {
	for _, x := range []struct {
		c    api.Cap
		want [2]uint64
	}{
		{api.Cap{}, [2]uint64{}},
		{api.Cap{Kind: api.CapEndpoint}, [2]uint64{4, 0}},
		{api.Cap{Kind: api.CapIrq, Rights: 7}, [2]uint64{0x79, 0}},
		{api.Cap{Kind: api.CapFrame, Obj: 1, Rights: api.Write}, [2]uint64{0x10026, 0}},
		{api.Cap{Kind: api.CapThread, Obj: lastObj, Rights: 7}, [2]uint64{0x7fffffff0073, 0}},
		{api.Cap{Kind: api.CapNotify, Obj: 0x1234, Rights: api.Read, Badge: allBits}, [2]uint64{0x12340015, allBits}},
		{api.Cap{Kind: api.CapNode, Obj: 2, Rights: 7, Guard: 5, Bits: 3}, [2]uint64{0x201f2, 5}},
		{api.Cap{Kind: api.CapNode, Obj: 0, Rights: 7, Guard: 1 << 63, Bits: 64}, [2]uint64{0x2072, 1 << 63}},
		{api.Cap{Kind: api.CapNode, Obj: 0, Rights: 7, Bits: 64}, [2]uint64{0x2072, 0}},
	} {
		if w, e := caps.Pack(x.c); w != x.want || e != api.OK {
			t.Errorf("Pack(%+v) = %#x, %d, not %#x", x.c, w, e, x.want)
		}
		if c, e := caps.Unpack(x.want); c != x.c || e != api.OK {
			t.Errorf("Unpack(%#x) = %+v, %d, not %+v", x.want, c, e, x.c)
		}
	}
}

// TestP44PackFields reckons the words by powers of two, as the promise gives the places.
func TestP44PackFields(t *testing.T) {
	for _, c := range right() {
		want := [2]uint64{uint64(c.Kind + 16*c.Rights + 128*c.Bits + 65536*c.Obj), c.Badge + c.Guard}
		if w, e := caps.Pack(c); w != want || e != api.OK {
			t.Fatalf("Pack(%+v) = %#x, %d, not %#x", c, w, e, want)
		}
	}
	for _, c := range wrong() {
		if w, e := caps.Pack(c); w != ([2]uint64{}) || e != api.ErrCapsForm {
			t.Fatalf("Pack(%+v) = %#x, %d, not ErrCapsForm", c, w, e)
		}
	}
}

func unpacked(t *testing.T, w [2]uint64, want api.Cap, wantE api.Errno) {
	t.Helper()
	if got, e := caps.Unpack(w); got != want || e != wantE {
		t.Fatalf("Unpack(%#x) = %+v, %d, not %+v, %d", w, got, e, want, wantE)
	}
}

// TestP44UnpackOneBit: words with one bit that is 1. Of these only kind 4's alone is a capability.
func TestP44UnpackOneBit(t *testing.T) {
	for at := range 64 {
		want, e := api.Cap{}, api.ErrCapsForm
		if at == 2 {
			want, e = api.Cap{Kind: api.CapEndpoint}, api.OK
		}
		unpacked(t, [2]uint64{1 << at, 0}, want, e)
		unpacked(t, [2]uint64{0, 1 << at}, api.Cap{}, api.ErrCapsForm)
	}
}

// TestP44UnpackOneBitMore: a bit between the fields, or above them, makes any packed capability none.
func TestP44UnpackOneBitMore(t *testing.T) {
	for _, c := range right() {
		w, _ := caps.Pack(c)
		for at := range 64 {
			if at != 14 && at != 15 && at < 47 {
				continue
			}
			unpacked(t, [2]uint64{w[0] | 1<<at, w[1]}, api.Cap{}, api.ErrCapsForm)
		}
	}
}

func TestP44UnpackWrong(t *testing.T) {
	for kind := range 16 {
		k := uint64(kind)
		for rights := range uint64(8) {
			limited := kind == 4 || kind == 5 || kind == 6
			may := limited || rights == 7 && kind >= 1 && kind <= 9 || k+rights == 0
			for _, obj := range []int{0, 1, lastObj} {
				w := [2]uint64{k | rights<<4 | uint64(obj)<<16, 0}
				if may && (kind != 0 || obj == 0) {
					unpacked(t, w, api.Cap{Kind: kind, Obj: obj, Rights: int(rights)}, api.OK)
				} else {
					unpacked(t, w, api.Cap{}, api.ErrCapsForm)
				}
			}
		}
		for bits := range uint64(128) {
			w := [2]uint64{k | 7<<4 | bits<<7, 0}
			if kind == 2 && bits <= 64 || bits == 0 && kind >= 1 && kind <= 9 {
				unpacked(t, w, api.Cap{Kind: kind, Rights: 7, Bits: int(bits)}, api.OK)
			} else {
				unpacked(t, w, api.Cap{}, api.ErrCapsForm)
			}
		}
	}
}

// TestP44UnpackSecond: the second word is a badge of some, a guard of nodes, and 0 of all others.
func TestP44UnpackSecond(t *testing.T) {
	for _, k := range kinds {
		for _, b := range badges {
			w := [2]uint64{uint64(k.kind) | 7<<4, b}
			if k.badged {
				unpacked(t, w, api.Cap{Kind: k.kind, Rights: 7, Badge: b}, api.OK)
			} else {
				unpacked(t, w, api.Cap{}, api.ErrCapsForm)
			}
			w[0] |= 64 << 7
			if k.guarded {
				unpacked(t, w, api.Cap{Kind: k.kind, Rights: 7, Guard: b, Bits: 64}, api.OK)
			} else {
				unpacked(t, w, api.Cap{}, api.ErrCapsForm)
			}
		}
	}
	for bits := range 64 {
		first := uint64(2 | 7<<4 | bits<<7)
		unpacked(t, [2]uint64{first, 1<<bits - 1}, api.Cap{Kind: api.CapNode, Rights: 7, Guard: 1<<bits - 1, Bits: bits}, api.OK)
		unpacked(t, [2]uint64{first, 1 << bits}, api.Cap{}, api.ErrCapsForm)
	}
	unpacked(t, [2]uint64{allBits, allBits}, api.Cap{}, api.ErrCapsForm)
}

func TestP45MintedDerives(t *testing.T) {
	for _, c := range right() {
		for rights := range 8 {
			for _, badge := range []uint64{0, 1, allBits} {
				m, e := caps.Mint(c, rights, badge)
				if e != api.OK {
					continue
				}
				if !caps.Derives(c, m) || caps.Check(m) != api.OK {
					t.Fatalf("Mint(%+v, %d, %d) = %+v does not derive of it, or may not be", c, rights, badge, m)
				}
			}
		}
	}
}

// TestP45DerivesOfThird takes few of each field, so that all three can be gone through.
func TestP45DerivesOfThird(t *testing.T) {
	l := []api.Cap{{}}
	for _, kind := range []int{api.CapEndpoint, api.CapFrame} {
		for _, obj := range []int{0, lastObj} {
			for rights := range 8 {
				for badge := range uint64(3) {
					if badge == 0 || kind == api.CapEndpoint {
						l = append(l, api.Cap{Kind: kind, Obj: obj, Rights: rights, Badge: badge})
					}
				}
			}
		}
	}
	derived := 0
	for _, a := range l {
		for _, b := range l {
			if !caps.Derives(a, b) {
				continue
			}
			for _, c := range l {
				if !caps.Derives(b, c) {
					continue
				}
				derived++
				if !caps.Derives(a, c) {
					t.Fatalf("%+v derives of %+v, that of %+v, and it does not of this", c, b, a)
				}
			}
		}
	}
	if derived == 0 {
		t.Error("nothing derives")
	}
}

func TestP45PackedUnpacked(t *testing.T) {
	seen := map[[2]uint64]api.Cap{}
	for _, c := range right() {
		w, e := caps.Pack(c)
		if e != api.OK {
			t.Fatalf("Pack(%+v): error %d", c, e)
		}
		if other, ok := seen[w]; ok && other != c {
			t.Fatalf("%+v and %+v are packed alike", c, other)
		}
		seen[w] = c
		unpacked(t, w, c, api.OK)
	}
}

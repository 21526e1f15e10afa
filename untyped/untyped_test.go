package untyped_test

import (
	"math"
	"slices"
	"testing"

	"buttress/api"
	"buttress/untyped"
)

const (
	greatest = uint64(math.MaxUint64)
	maxBase  = uint64(1) << 40
)

// far are numbers that are none of Bits, a kind, bits or n; many have lowest bits that would be right ones, or come to 0 when they are taken so many times.
var far = []int{
	-1, -2, -4, -8, -20, -60, -64, -128, -252, -256, -1 << 31, 4 - 1<<32, -1 << 32, math.MinInt, math.MinInt + 1, math.MinInt + 4, math.MinInt + 8,
	128, 132, 256, 257, 260, 264, 1 << 16, 1<<16 + 4, 1 << 31, 1 << 32, 1<<32 + 1, 1<<32 + 2, 1<<32 + 4, 1 << 58, 1<<58 + 1, 1<<62 + 1, 1 << 62, math.MaxInt - 1, math.MaxInt,
}

// farWords are far above what Base, and Used, may be, each a multiple of 2^20.
var farWords = []uint64{1 << 41, 1<<40 + 1<<32, 1 << 44, 1 << 60, 1 << 62, 1<<63 - 1<<20, 1 << 63, 1<<63 + 1<<40, greatest - 1<<40 + 1, greatest - 1<<21 + 1, greatest - 1<<20 + 1}

// object is what Size and Place are asked for.
type object struct{ kind, bits int }

// fixed are the kinds of which bits makes no difference, by how large they are.
var fixed = map[int]int{api.CapThread: 5, api.CapEndpoint: 2, api.CapNotify: 2, api.CapFrame: 6, api.CapTable: 6, api.CapSpace: 6}

// objects are all that may be, of bits that make a difference.
func objects() []object {
	l := []object{{api.CapThread, 0}, {api.CapEndpoint, -1}, {api.CapNotify, 99}, {api.CapFrame, 0}, {api.CapTable, math.MinInt}, {api.CapSpace, math.MaxInt}}
	for bits := 4; bits <= 20; bits++ {
		l = append(l, object{api.CapUntyped, bits})
	}
	for bits := 1; bits <= 8; bits++ {
		l = append(l, object{api.CapNode, bits})
	}
	return l
}

// noKinds are kinds of which no memory becomes an object.
func noKinds() []int {
	return append([]int{api.CapNone, api.CapIrq, api.CapKinds, api.CapKinds + 1, 16, 17, 20}, far...)
}

// power is 2 to the power of n, by doubling alone.
func power(n int) uint64 {
	p := uint64(1)
	for range n {
		p *= 2
	}
	return p
}

// wrongUntyped may not be: many are wrong by one thing alone, some by several.
func wrongUntyped() []api.Untyped {
	l := []api.Untyped{
		{Bits: 21}, {Bits: 22}, {Bits: 40}, {Bits: 63}, {Bits: 64}, {Bits: 65}, {Base: 1 << 21, Bits: 21, Used: 1 << 21},
		{Base: 1, Bits: 1}, {Base: 2, Bits: 2}, {Base: 3, Bits: 1}, {Base: 12, Bits: 3}, {Base: 1 << 19, Bits: 20}, {Base: 1<<20 + 1, Bits: 20}, {Base: 1<<40 - 1, Bits: 1}, {Base: 1<<40 - 1<<19, Bits: 20},
		{Base: maxBase + 1}, {Base: greatest}, {Base: greatest - 1},
		{Bits: 0, Used: 2}, {Bits: 4, Used: 17}, {Bits: 20, Used: 1<<20 + 1}, {Base: maxBase, Bits: 20, Used: 1<<20 + 1}, {Base: maxBase, Bits: 20, Used: greatest - maxBase + 1}, {Used: greatest},
		{Bits: -1, Base: 1}, {Bits: 21, Base: 1, Used: greatest}, {Bits: 4, Base: greatest, Used: greatest}, {Bits: 1, Base: 1, Used: 3}, {Bits: math.MinInt, Base: greatest, Used: greatest},
	}
	for _, bits := range far {
		l = append(l, api.Untyped{Bits: bits}, api.Untyped{Bits: bits, Used: 1})
	}
	for _, w := range farWords {
		for _, bits := range []int{0, 1, 6, 20} {
			l = append(l, api.Untyped{Base: w, Bits: bits}, api.Untyped{Base: w, Bits: bits, Used: power(bits)}, api.Untyped{Bits: bits, Used: w})
			// Base and Used together come to 0, if the sum wraps round.
			l = append(l, api.Untyped{Base: w, Bits: bits, Used: -w})
		}
	}
	return l
}

func checks(t *testing.T, u api.Untyped, want api.Errno) {
	t.Helper()
	if e := untyped.Check(u); e != want {
		t.Errorf("Check(%+v) = %d, not %d", u, e, want)
	}
}

func sizes(t *testing.T, kind, bits, want int, wantE api.Errno) {
	t.Helper()
	if n, e := untyped.Size(kind, bits); n != want || e != wantE {
		t.Errorf("Size(%d, %d) = %d, %d, not %d, %d", kind, bits, n, e, want, wantE)
	}
}

// places holds Place to where objects begin, and how much is used then; it answers what is left.
func places(t *testing.T, u api.Untyped, o object, n int, used uint64, want ...uint64) api.Untyped {
	t.Helper()
	l, v, e := untyped.Place(u, o.kind, o.bits, n)
	if !slices.Equal(l, want) || v != (api.Untyped{Base: u.Base, Bits: u.Bits, Used: used}) || e != api.OK {
		t.Fatalf("Place(%+v, %+v, %d) = %v, %+v, %d, not %v, Used %d", u, o, n, l, v, e, want, used)
	}
	return v
}

// fails holds Place to an error, beside which all is zero.
func fails(t *testing.T, u api.Untyped, o object, n int, want api.Errno) {
	t.Helper()
	l, v, e := untyped.Place(u, o.kind, o.bits, n)
	if len(l) != 0 || v != (api.Untyped{}) || e != want {
		t.Errorf("Place(%+v, %+v, %d) = %v, %+v, %d, not error %d", u, o, n, l, v, e, want)
	}
}

// row are n places, one behind the other.
func row(first, step uint64, n int) []uint64 {
	l := []uint64{}
	for i := range n {
		l = append(l, first+uint64(i)*step)
	}
	return l
}

// sizeOf is how large an object is that may be.
func sizeOf(o object) uint64 {
	switch o.kind {
	case api.CapUntyped:
		return power(o.bits)
	case api.CapNode:
		return power(o.bits) * 4
	}
	return power(fixed[o.kind])
}

// placed is P8.3 once more, of what may be: it goes on place by place, until the first object goes in.
func placed(u api.Untyped, o object, n int) ([]uint64, uint64, api.Errno) {
	size := sizeOf(o)
	at := u.Base + u.Used
	for at%size != 0 {
		at++
	}
	l := row(at, size, n)
	end := l[n-1] + size
	if end > u.Base+power(u.Bits) {
		return nil, 0, api.ErrUntypedRoom
	}
	return l, end - u.Base, api.OK
}

func TestP81Ordinary(t *testing.T) {
	for _, u := range []api.Untyped{{}, {Base: 256, Bits: 8}, {Base: 256, Bits: 8, Used: 12}, {Base: 4096, Bits: 6, Used: 33}, {Base: 3 << 20, Bits: 20, Used: 1}} {
		checks(t, u, api.OK)
	}
}

func TestP81Bits(t *testing.T) {
	for bits := 0; bits <= 20; bits++ {
		checks(t, api.Untyped{Bits: bits}, api.OK)
		checks(t, api.Untyped{Base: maxBase, Bits: bits, Used: 1}, api.OK)
	}
	for bits := 21; bits <= 130; bits++ {
		checks(t, api.Untyped{Bits: bits}, api.ErrArg)
		checks(t, api.Untyped{Base: maxBase, Bits: bits, Used: 1}, api.ErrArg)
	}
	for _, bits := range far {
		checks(t, api.Untyped{Bits: bits}, api.ErrArg)
		checks(t, api.Untyped{Base: maxBase, Bits: bits}, api.ErrArg)
	}
}

func TestP81Base(t *testing.T) {
	for bits := 0; bits <= 20; bits++ {
		step := power(bits)
		for _, base := range []uint64{0, step, 2 * step, 3 * step, 1 << 20, 1 << 32, maxBase - step, maxBase} {
			checks(t, api.Untyped{Base: base, Bits: bits}, api.OK)
			checks(t, api.Untyped{Base: base, Bits: bits, Used: step}, api.OK)
		}
		for _, base := range append([]uint64{maxBase + step, maxBase + 2*step, 2 * maxBase, -step}, farWords...) {
			checks(t, api.Untyped{Base: base, Bits: bits}, api.ErrArg)
			checks(t, api.Untyped{Base: base, Bits: bits, Used: step}, api.ErrArg)
		}
	}
}

// TestP81NoMultiple: a Base that is off by any bit below Bits is none.
func TestP81NoMultiple(t *testing.T) {
	for bits := 1; bits <= 20; bits++ {
		step := power(bits)
		for off := range bits {
			for _, base := range []uint64{0, step, 1 << 32, maxBase - step} {
				checks(t, api.Untyped{Base: base + power(off), Bits: bits}, api.ErrArg)
			}
		}
		checks(t, api.Untyped{Base: step - 1, Bits: bits}, api.ErrArg)
		checks(t, api.Untyped{Base: step + 1, Bits: bits}, api.ErrArg)
		checks(t, api.Untyped{Base: maxBase - 1, Bits: bits}, api.ErrArg)
	}
	checks(t, api.Untyped{Base: 1}, api.OK)
	checks(t, api.Untyped{Base: maxBase - 1}, api.OK)
}

func TestP81Used(t *testing.T) {
	for bits := 0; bits <= 20; bits++ {
		size := power(bits)
		for _, base := range []uint64{0, size, maxBase} {
			for _, used := range []uint64{0, 1, size - 1, size} {
				checks(t, api.Untyped{Base: base, Bits: bits, Used: used}, api.OK)
			}
			for _, used := range append([]uint64{size + 1, size + 2, 1<<32 + 1, 1 << 63, greatest - 1, greatest, greatest - base}, farWords...) {
				checks(t, api.Untyped{Base: base, Bits: bits, Used: used}, api.ErrArg)
			}
		}
	}
}

func TestP81Wrong(t *testing.T) {
	for _, u := range wrongUntyped() {
		checks(t, u, api.ErrArg)
	}
}

func TestP82Untyped(t *testing.T) {
	for bits := -300; bits <= 300; bits++ {
		if bits >= 4 && bits <= 20 {
			sizes(t, api.CapUntyped, bits, bits, api.OK)
		} else {
			sizes(t, api.CapUntyped, bits, 0, api.ErrArg)
		}
	}
	for _, bits := range far {
		sizes(t, api.CapUntyped, bits, 0, api.ErrArg)
	}
}

func TestP82Node(t *testing.T) {
	for bits := -300; bits <= 300; bits++ {
		if bits >= 1 && bits <= 8 {
			sizes(t, api.CapNode, bits, bits+2, api.OK)
		} else {
			sizes(t, api.CapNode, bits, 0, api.ErrArg)
		}
	}
	for _, bits := range far {
		sizes(t, api.CapNode, bits, 0, api.ErrArg)
	}
}

func TestP82Fixed(t *testing.T) {
	for kind, want := range fixed {
		for bits := -300; bits <= 300; bits++ {
			sizes(t, kind, bits, want, api.OK)
		}
		for _, bits := range far {
			sizes(t, kind, bits, want, api.OK)
		}
	}
}

// TestP82Kind: the kind's error is named ahead of the bits', and is the answer whatever they are.
func TestP82Kind(t *testing.T) {
	for _, kind := range noKinds() {
		for _, bits := range append([]int{0, 1, 2, 3, 4, 8, 9, 20, 21}, far...) {
			sizes(t, kind, bits, 0, api.ErrUntypedKind)
		}
	}
}

func TestP83Example(t *testing.T) {
	u := places(t, api.Untyped{Bits: 6}, object{api.CapEndpoint, 0}, 2, 8, 0, 4)
	u = places(t, u, object{api.CapThread, 0}, 1, 64, 32)
	for _, o := range objects() {
		fails(t, u, o, 1, api.ErrUntypedRoom)
	}
}

func TestP83Ordinary(t *testing.T) {
	u := api.Untyped{Base: 5 << 12, Bits: 12}
	u = places(t, u, object{api.CapUntyped, 4}, 3, 48, 20480, 20496, 20512)
	u = places(t, u, object{api.CapNode, 3}, 2, 128, 20544, 20576)
	u = places(t, u, object{api.CapSpace, 0}, 1, 192, 20608)
	u = places(t, u, object{api.CapNotify, 0}, 1, 196, 20672)
	u = places(t, u, object{api.CapTable, 0}, 2, 384, 20736, 20800)
	u = places(t, u, object{api.CapNode, 8}, 2, 3072, 21504, 22528)
	u = places(t, u, object{api.CapFrame, 0}, 1, 3136, 23552)
	fails(t, u, object{api.CapNode, 8}, 1, api.ErrUntypedRoom)
	places(t, u, object{api.CapUntyped, 9}, 1, 4096, 24064)
}

// TestP83JustGoesIn: all kinds, all n: what takes all that is left goes in; with one place more used, or one object more, it does not.
func TestP83JustGoesIn(t *testing.T) {
	for _, o := range objects() {
		size := sizeOf(o)
		for n := 1; n <= 64; n++ {
			all := uint64(n) * size
			for _, base := range []uint64{0, 7 << 20, maxBase} {
				u := api.Untyped{Base: base, Bits: 20, Used: 1<<20 - all}
				if all > 1<<20 {
					u.Used = 0
					fails(t, u, o, n, api.ErrUntypedRoom)
					continue
				}
				places(t, u, o, n, 1<<20, row(base+u.Used, size, n)...)
				if n < 64 {
					fails(t, u, o, n+1, api.ErrUntypedRoom)
				}
				u.Used++
				fails(t, u, o, n, api.ErrUntypedRoom)
				u.Used = 1 << 20
				fails(t, u, o, n, api.ErrUntypedRoom)
			}
		}
	}
}

// TestP83PassedOver: room up to the next multiple of the size is passed over; none, if the used part ends at one.
func TestP83PassedOver(t *testing.T) {
	for _, o := range objects() {
		size := sizeOf(o)
		if size > 1<<18 {
			continue
		}
		for _, base := range []uint64{0, 1 << 20, maxBase} {
			for _, ahead := range []uint64{0, size, 2 * size} {
				u := api.Untyped{Base: base, Bits: 20, Used: ahead}
				places(t, u, o, 1, ahead+size, base+ahead)
				for _, over := range []uint64{1, 2, size/2 + 1, size - 1} {
					u.Used = ahead + over
					places(t, u, o, 1, ahead+2*size, base+ahead+size)
				}
			}
		}
	}
}

// TestP83Whole: an object as large as u goes in once, if nothing is used; one that is larger never does, wherever u begins.
func TestP83Whole(t *testing.T) {
	for bits := 0; bits <= 20; bits++ {
		for _, base := range []uint64{0, power(bits), 3 * power(bits), 1 << 32, maxBase} {
			u := api.Untyped{Base: base, Bits: bits}
			for _, o := range objects() {
				switch size := sizeOf(o); {
				case size == power(bits):
					full := places(t, u, o, 1, size, base)
					fails(t, u, o, 2, api.ErrUntypedRoom)
					fails(t, full, o, 1, api.ErrUntypedRoom)
					fails(t, api.Untyped{Base: base, Bits: bits, Used: 1}, o, 1, api.ErrUntypedRoom)
				case size > power(bits):
					fails(t, u, o, 1, api.ErrUntypedRoom)
					fails(t, u, o, 64, api.ErrUntypedRoom)
				}
			}
		}
	}
}

func TestP83Number(t *testing.T) {
	u := api.Untyped{Base: 1 << 12, Bits: 12}
	for n := 1; n <= 64; n++ {
		places(t, u, object{api.CapFrame, 0}, n, uint64(n)*64, row(1<<12, 64, n)...)
		places(t, u, object{api.CapNotify, 0}, n, uint64(n)*4, row(1<<12, 4, n)...)
	}
	u = api.Untyped{Bits: 20}
	for _, n := range append([]int{0, 65, 66, 100}, far...) {
		for _, o := range objects() {
			fails(t, u, o, n, api.ErrArg)
		}
	}
}

func TestP83WrongUntyped(t *testing.T) {
	for _, u := range wrongUntyped() {
		fails(t, u, object{api.CapEndpoint, 0}, 1, api.ErrArg)
		fails(t, u, object{api.CapUntyped, 4}, 1, api.ErrArg)
	}
}

func TestP83WrongObject(t *testing.T) {
	u := api.Untyped{Bits: 20}
	for _, kind := range noKinds() {
		fails(t, u, object{kind, 4}, 1, api.ErrUntypedKind)
	}
	for _, bits := range append([]int{-1, 0, 3, 21, 22}, far...) {
		fails(t, u, object{api.CapUntyped, bits}, 1, api.ErrArg)
	}
	for _, bits := range append([]int{-1, 0, 9, 10}, far...) {
		fails(t, u, object{api.CapNode, bits}, 1, api.ErrArg)
	}
}

// TestP83FirstError: of several errors it is the one that P8.3 names first.
func TestP83FirstError(t *testing.T) {
	full := api.Untyped{Base: 64, Bits: 6, Used: 64}
	numbers := append([]int{0, 65}, far...)
	for _, u := range wrongUntyped() {
		for _, n := range []int{0, 1, 64, 65, -1, math.MinInt, math.MaxInt} {
			for _, o := range []object{{api.CapNone, 0}, {api.CapIrq, 4}, {-1, -1}, {api.CapKinds, 21}, {api.CapUntyped, 3}, {api.CapNode, 9}, {api.CapUntyped, 20}} {
				fails(t, u, o, n, api.ErrArg)
			}
		}
	}
	for _, kind := range noKinds() {
		for _, bits := range []int{-1, 0, 4, 21} {
			for _, n := range append([]int{1, 64}, numbers...) {
				fails(t, full, object{kind, bits}, n, api.ErrUntypedKind)
			}
		}
	}
	for _, o := range []object{{api.CapUntyped, 3}, {api.CapUntyped, 21}, {api.CapUntyped, -1}, {api.CapNode, 0}, {api.CapNode, 9}, {api.CapNode, math.MaxInt}} {
		for _, n := range append([]int{1, 64}, numbers...) {
			fails(t, full, o, n, api.ErrArg)
		}
	}
	for _, n := range numbers {
		for _, o := range objects() {
			fails(t, full, o, n, api.ErrArg)
		}
	}
}

// TestP83NewMemory: a list that was answered is its owner's, spare room too.
func TestP83NewMemory(t *testing.T) {
	u := api.Untyped{Base: 256, Bits: 8}
	for n := 1; n <= 64; n++ {
		want := row(256, 4, n)
		one, _, _ := untyped.Place(u, api.CapEndpoint, 0, n)
		two, _, _ := untyped.Place(u, api.CapEndpoint, 0, n)
		for i := range one[:cap(one)] {
			one[:cap(one)][i] = greatest
		}
		if !slices.Equal(two, want) {
			t.Fatalf("another answer's places became %v", two)
		}
		two = append(two, 1)
		if three, _, _ := untyped.Place(u, api.CapEndpoint, 0, n); !slices.Equal(three, want) || two[n] != 1 {
			t.Fatalf("a later answer is %v, an earlier one %v", three, two)
		}
	}
}

// TestP83SameAgain: what is answered hangs on what is asked alone, also behind errors and other answers.
func TestP83SameAgain(t *testing.T) {
	u := api.Untyped{Base: 256, Bits: 8, Used: 3}
	for range 3 {
		places(t, u, object{api.CapEndpoint, 0}, 2, 12, 260, 264)
		fails(t, u, object{api.CapNode, 8}, 1, api.ErrUntypedRoom)
		fails(t, u, object{api.CapIrq, 8}, 1, api.ErrUntypedKind)
		sizes(t, api.CapNode, 8, 10, api.OK)
		checks(t, u, api.OK)
	}
}

func TestP84Reset(t *testing.T) {
	for bits := 0; bits <= 20; bits++ {
		for _, base := range []uint64{0, power(bits), maxBase} {
			for _, used := range []uint64{0, 1, power(bits)} {
				if v := untyped.Reset(api.Untyped{Base: base, Bits: bits, Used: used}); v != (api.Untyped{Base: base, Bits: bits}) {
					t.Errorf("Reset of Base %d, Bits %d, Used %d = %+v", base, bits, used, v)
				}
			}
		}
	}
}

// TestP84Wrong: P8.4 names no error, and no u of which it does not hold.
func TestP84Wrong(t *testing.T) {
	for _, u := range wrongUntyped() {
		if v := untyped.Reset(u); v != (api.Untyped{Base: u.Base, Bits: u.Bits}) {
			t.Errorf("Reset(%+v) = %+v", u, v)
		}
	}
}

func TestP84Again(t *testing.T) {
	u := api.Untyped{Base: 1 << 10, Bits: 10}
	full := places(t, u, object{api.CapNode, 8}, 1, 1<<10, 1<<10)
	fails(t, full, object{api.CapEndpoint, 0}, 1, api.ErrUntypedRoom)
	places(t, untyped.Reset(full), object{api.CapEndpoint, 0}, 2, 8, 1<<10, 1<<10+4)
}

// TestP85AllSmall: every small u, however much of it is used, every kind, and many n: as P8.3 told once more says.
func TestP85AllSmall(t *testing.T) {
	for bits := 0; bits <= 8; bits++ {
		for _, base := range []uint64{0, power(bits), 5 * power(bits), maxBase} {
			for used := uint64(0); used <= power(bits); used++ {
				u := api.Untyped{Base: base, Bits: bits, Used: used}
				for _, o := range objects() {
					if sizeOf(o) > 1<<10 {
						continue
					}
					for _, n := range []int{1, 2, 3, 4, 5, 7, 8, 15, 16, 17, 32, 63, 64} {
						if l, after, e := placed(u, o, n); e != api.OK {
							fails(t, u, o, n, e)
						} else {
							places(t, u, o, n, after, l...)
						}
					}
				}
			}
		}
	}
}

// pick is a row of numbers that is the same at every run.
type pick uint64

func (p *pick) next(n int) int {
	*p = *p*6364136223846793005 + 1442695040888963407
	return int(*p>>33) % n
}

// TestP85ManyCalls fills memory by many calls, and marks each place of each object: none is marked twice, nor outside of u, nor where it was used.
func TestP85ManyCalls(t *testing.T) {
	p := pick(3)
	all := objects()
	for round := range 200 {
		bits := round % 15
		base := uint64(p.next(1<<20)) * power(bits)
		if round%4 == 0 {
			base = maxBase
		}
		u := api.Untyped{Base: base, Bits: bits, Used: uint64(p.next(int(power(bits)) + 1))}
		marked := make([]int, power(bits))
		for i := range u.Used {
			marked[i]++
		}
		for range 60 {
			o, n := all[p.next(len(all))], 1+p.next(6)
			l, v, e := untyped.Place(u, o.kind, o.bits, n)
			if e != api.OK {
				fails(t, u, o, n, api.ErrUntypedRoom)
				continue
			}
			if len(l) != n {
				t.Fatalf("Place(%+v, %+v, %d) places %d", u, o, n, len(l))
			}
			for _, at := range l {
				mark(t, u, marked, at, sizeOf(o))
			}
			if v.Used < u.Used || v.Used != l[n-1]+sizeOf(o)-base {
				t.Fatalf("Place(%+v, %+v, %d) leaves %+v", u, o, n, v)
			}
			checks(t, v, api.OK)
			u = v
		}
	}
}

func mark(t *testing.T, u api.Untyped, marked []int, at, size uint64) {
	t.Helper()
	if at%size != 0 || at < u.Base+u.Used || at+size > u.Base+power(u.Bits) {
		t.Fatalf("an object of %d is at %d of %+v", size, at, u)
	}
	for i := at - u.Base; i < at-u.Base+size; i++ {
		if marked[i]++; marked[i] > 1 {
			t.Fatalf("an object of %d at %d of %+v stands over another one", size, at, u)
		}
	}
}

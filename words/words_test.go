package words_test

import (
	"math"
	"math/big"
	"testing"

	"buttress/api"
	"buttress/words"
)

const all = uint64(math.MaxUint64)

// samples are words of every shape: none, one, all bits, bits at both ends, and mixed ones.
var samples = []uint64{0, 1, 2, 5, 0x1234, 1 << 31, 1 << 32, 0x0123456789abcdef, 0xaaaaaaaaaaaaaaaa, 0x5555555555555555, 1<<63 - 1, 1 << 63, 1<<63 + 1, all - 1, all}

// wrong are numbers that are none of a bit, a place or a count, whatever the limit.
var wrong = []int{-1, -2, -64, -65, -255, -256, math.MinInt + 1, math.MinInt, math.MaxInt, math.MaxInt - 1, math.MaxInt - 63, 1 << 62, 1 << 32}

// isOne tells a bit by halving alone, so that no shift or mask of the package is leant on.
func isOne(v uint64, n int) bool {
	for range n {
		v /= 2
	}
	return v%2 == 1
}

// power is 2 to the power of n; at 64 it has wrapped round to 0.
func power(n int) uint64 {
	p := uint64(1)
	for range n {
		p *= 2
	}
	return p
}

// slice is what Field answers, put together bit by bit.
func slice(v uint64, at, n int) uint64 {
	x := uint64(0)
	for i := range n {
		if isOne(v, at+i) {
			x += power(i)
		}
	}
	return x
}

func TestP11Mask(t *testing.T) {
	for n := range 65 {
		m, e := words.Mask(n)
		if e != api.OK {
			t.Fatalf("Mask(%d): error %d", n, e)
		}
		for i := range 64 {
			if isOne(m, i) != (i < n) {
				t.Errorf("Mask(%d) = %#x: bit %d", n, m, i)
			}
		}
	}
	if m, e := words.Mask(3); m != 7 || e != api.OK {
		t.Errorf("Mask(3) = %d, %d", m, e)
	}
}

func TestP11MaskWrong(t *testing.T) {
	for _, n := range append([]int{65, 66, 128}, wrong...) {
		if m, e := words.Mask(n); m != 0 || e != api.ErrArg {
			t.Errorf("Mask(%d) = %#x, %d", n, m, e)
		}
	}
}

func TestP11Field(t *testing.T) {
	if v, e := words.Field(0x1234, 4, 8); v != 0x23 || e != api.OK {
		t.Errorf("Field(0x1234, 4, 8) = %#x, %d", v, e)
	}
	for _, v := range samples {
		for at := range 65 {
			for n := range 65 - at {
				got, e := words.Field(v, at, n)
				if want := slice(v, at, n); got != want || e != api.OK {
					t.Fatalf("Field(%#x, %d, %d) = %#x, %d, not %#x", v, at, n, got, e, want)
				}
			}
		}
	}
}

func TestP11With(t *testing.T) {
	if v, e := words.With(0x1234, 4, 8, 0xff); v != 0x1ff4 || e != api.OK {
		t.Errorf("With(0x1234, 4, 8, 0xff) = %#x, %d", v, e)
	}
	if v, e := words.With(0x1234, 0, 64, all); v != all || e != api.OK {
		t.Errorf("With(0x1234, 0, 64, all) = %#x, %d", v, e)
	}
	if v, e := words.With(0x1234, 64, 0, 0); v != 0x1234 || e != api.OK {
		t.Errorf("With(0x1234, 64, 0, 0) = %#x, %d", v, e)
	}
}

func TestP11WithBig(t *testing.T) {
	for n := range 64 {
		for _, at := range []int{0, 64 - n} {
			for _, x := range []uint64{power(n), power(63), all} {
				if v, e := words.With(all, at, n, x); v != 0 || e != api.ErrBig {
					t.Errorf("With(all, %d, %d, %#x) = %#x, %d", at, n, x, v, e)
				}
			}
			if _, e := words.With(0, at, n, power(n)-1); e != api.OK {
				t.Errorf("With(0, %d, %d, %#x): error %d", at, n, power(n)-1, e)
			}
		}
	}
}

// wrongPlaces are places and counts that a word does not have, sums that wrap round among them.
func wrongPlaces() [][2]int {
	l := [][2]int{{math.MaxInt, 1}, {1, math.MaxInt}, {math.MaxInt, math.MaxInt}, {1 << 62, 1 << 62}, {math.MinInt, math.MinInt}, {-1, 65}, {65, -1}, {64, -1}, {-64, 64}}
	for at := range 66 {
		l = append(l, [2]int{at, 65 - at}, [2]int{at, 66 - at}, [2]int{at, 129 - at})
	}
	for _, w := range wrong {
		l = append(l, [2]int{w, 0}, [2]int{0, w}, [2]int{w, 4}, [2]int{4, w}, [2]int{w, w})
	}
	return l
}

func TestP11WrongPlaces(t *testing.T) {
	for _, p := range wrongPlaces() {
		if v, e := words.Field(all, p[0], p[1]); v != 0 || e != api.ErrArg {
			t.Errorf("Field(all, %d, %d) = %#x, %d", p[0], p[1], v, e)
		}
		// ErrArg is named ahead of ErrBig: it is the answer whether x fits or not.
		for _, x := range []uint64{0, 1, all} {
			if v, e := words.With(all, p[0], p[1], x); v != 0 || e != api.ErrArg {
				t.Errorf("With(all, %d, %d, %#x) = %#x, %d", p[0], p[1], x, v, e)
			}
		}
	}
}

// leastMultiple counts without a bound, so that a sum that does not fit is seen.
func leastMultiple(v uint64, bits int) *big.Int {
	step := new(big.Int).SetUint64(power(bits))
	n := new(big.Int).SetUint64(v)
	n.Add(n, step).Sub(n, big.NewInt(1))
	n.Div(n, step)
	return n.Mul(n, step)
}

func TestP12Up(t *testing.T) {
	if v, e := words.Up(5, 3); v != 8 || e != api.OK {
		t.Errorf("Up(5, 3) = %d, %d", v, e)
	}
	for bits := range 64 {
		p := power(bits)
		for _, v := range append([]uint64{p - 1, p, p + 1, 2*p - 1, 2 * p, 2*p + 1, -p - 1, -p, -p + 1, -p - p}, samples...) {
			want := leastMultiple(v, bits)
			got, e := words.Up(v, bits)
			if want.IsUint64() && (got != want.Uint64() || e != api.OK) || !want.IsUint64() && (got != 0 || e != api.ErrBig) {
				t.Errorf("Up(%#x, %d) = %#x, %d, not %v", v, bits, got, e, want)
			}
		}
	}
}

func TestP12UpEdges(t *testing.T) {
	for _, x := range []struct {
		v    uint64
		bits int
		want uint64
		e    api.Errno
	}{{0, 0, 0, api.OK}, {0, 63, 0, api.OK}, {1, 63, 1 << 63, api.OK}, {1 << 63, 63, 1 << 63, api.OK}, {1<<63 + 1, 63, 0, api.ErrBig}, {all, 0, all, api.OK}, {all, 1, 0, api.ErrBig}, {all - 1, 1, all - 1, api.OK}, {all, 63, 0, api.ErrBig}} {
		if v, e := words.Up(x.v, x.bits); v != x.want || e != x.e {
			t.Errorf("Up(%#x, %d) = %#x, %d", x.v, x.bits, v, e)
		}
	}
}

func TestP12UpWrong(t *testing.T) {
	for _, bits := range append([]int{64, 65, 127, 128}, wrong...) {
		for _, v := range samples {
			if u, e := words.Up(v, bits); u != 0 || e != api.ErrArg {
				t.Errorf("Up(%#x, %d) = %#x, %d", v, bits, u, e)
			}
		}
	}
}

// manyBits are bits of every shape: none, all, one word's, mixed ones.
func manyBits() []api.Bits {
	l := []api.Bits{{}, {all, all, all, all}, {0x8000000000000001, 0, 0, 0}, {0, 0, 0, 1 << 63}, {1, 1, 1, 1}, {1 << 63, 1 << 63, 1 << 63, 1 << 63}}
	for i := range len(samples) {
		l = append(l, api.Bits{samples[i], samples[len(samples)-1-i], samples[i/2], samples[(i+7)%len(samples)]})
	}
	return l
}

// lies tells bit n as the chapter numbers it: bit n modulo 64 of the word n / 64.
func lies(b api.Bits, n int) bool { return isOne(b[n/64], n%64) }

func TestP13Set(t *testing.T) {
	for n := range api.Prios {
		var want api.Bits
		want[n/64] = power(n % 64)
		if b, e := words.Set(api.Bits{}, n, true); b != want || e != api.OK {
			t.Errorf("Set(none, %d, true) = %#x, %d", n, b, e)
		}
		rest := api.Bits{all, all, all, all}
		rest[n/64] -= power(n % 64)
		if b, e := words.Set(api.Bits{all, all, all, all}, n, false); b != rest || e != api.OK {
			t.Errorf("Set(all, %d, false) = %#x, %d", n, b, e)
		}
	}
}

func TestP13Has(t *testing.T) {
	for _, b := range manyBits() {
		for n := range api.Prios {
			if words.Has(b, n) != lies(b, n) {
				t.Errorf("Has(%#x, %d) = %v", b, n, words.Has(b, n))
			}
		}
	}
}

func TestP13Wrong(t *testing.T) {
	for _, n := range append([]int{256, 257, 319, 320, 512}, wrong...) {
		for _, b := range manyBits() {
			for _, is := range []bool{false, true} {
				if c, e := words.Set(b, n, is); c != (api.Bits{}) || e != api.ErrArg {
					t.Errorf("Set(%#x, %d, %v) = %#x, %d", b, n, is, c, e)
				}
			}
			if words.Has(b, n) {
				t.Errorf("Has(%#x, %d)", b, n)
			}
		}
	}
}

func TestP13Top(t *testing.T) {
	for n := range api.Prios {
		var one, below api.Bits
		one[n/64] = power(n % 64)
		for i := range n + 1 {
			below[i/64] += power(i % 64)
		}
		for _, b := range []api.Bits{one, below} {
			if got := words.Top(b); got != n {
				t.Errorf("Top(%#x) = %d, not %d", b, got, n)
			}
		}
	}
	if got := words.Top(api.Bits{}); got != -1 {
		t.Errorf("Top(none) = %d", got)
	}
	if got := words.Top(api.Bits{8, 0, 0, 1 << 8}); got != 200 {
		t.Errorf("Top of bits 3 and 200 = %d", got)
	}
}

func TestP13TopOfMany(t *testing.T) {
	for _, b := range manyBits() {
		want := -1
		for n := range api.Prios {
			if lies(b, n) {
				want = n
			}
		}
		if got := words.Top(b); got != want {
			t.Errorf("Top(%#x) = %d, not %d", b, got, want)
		}
	}
}

func TestP14WhatIsPutIsFound(t *testing.T) {
	for _, v := range samples {
		for at := range 65 {
			for n := range 65 - at {
				for _, s := range samples {
					checkPut(t, v, at, n, slice(s, 0, n))
				}
			}
		}
	}
}

func checkPut(t *testing.T, v uint64, at, n int, x uint64) {
	t.Helper()
	w, e := words.With(v, at, n, x)
	if e != api.OK {
		t.Fatalf("With(%#x, %d, %d, %#x): error %d", v, at, n, x, e)
	}
	if got, e := words.Field(w, at, n); got != x || e != api.OK {
		t.Fatalf("With(%#x, %d, %d, %#x) = %#x: found %#x, %d", v, at, n, x, w, got, e)
	}
	// x's own bits may be all that w and v differ in.
	if stay := (w ^ v) &^ bitsAt(at, n); stay != 0 {
		t.Fatalf("With(%#x, %d, %d, %#x) = %#x: bits %#x are changed", v, at, n, x, w, stay)
	}
}

func bitsAt(at, n int) uint64 { return (power(n) - 1) * power(at) }

func TestP14WhatIsSetIsThere(t *testing.T) {
	for _, b := range manyBits() {
		for n := range api.Prios {
			for _, is := range []bool{false, true} {
				checkSet(t, b, n, is)
			}
		}
	}
}

func checkSet(t *testing.T, b api.Bits, n int, is bool) {
	t.Helper()
	was := b
	c, e := words.Set(b, n, is)
	if e != api.OK || b != was {
		t.Fatalf("Set(%#x, %d, %v): error %d, handed in %#x", was, n, is, e, b)
	}
	for i := range api.Prios {
		want := lies(was, i)
		if i == n {
			want = is
		}
		if words.Has(c, i) != want || lies(c, i) != want {
			t.Fatalf("Set(%#x, %d, %v) = %#x: bit %d", was, n, is, c, i)
		}
	}
}

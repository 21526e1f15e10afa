package memory_test

import (
	"math"
	"slices"
	"testing"

	"buttress/api"
	"buttress/memory"
)

const allBits = uint64(math.MaxUint64)

// wrong are numbers that are neither a place nor a count, whatever the size.
var wrong = []int{-1, -2, -6, -65536, math.MinInt, math.MinInt + 1, math.MinInt + 6, math.MaxInt, math.MaxInt - 1, math.MaxInt - 6, 1 << 62, 1 << 32, 65537}

// made is a memory with these words.
func made(t *testing.T, l ...uint64) *memory.Memory {
	t.Helper()
	m, e := memory.New(len(l))
	if e != api.OK {
		t.Fatalf("New(%d): error %d", len(l), e)
	}
	for i, v := range l {
		if e := m.Write(i, v); e != api.OK {
			t.Fatalf("Write(%d, %d): error %d", i, v, e)
		}
	}
	return m
}

// check asks for all words, one by one and as a whole.
func check(t *testing.T, m *memory.Memory, want ...uint64) {
	t.Helper()
	if m.Size() != len(want) {
		t.Fatalf("Size() = %d, not %d", m.Size(), len(want))
	}
	got, e := m.Words(0, len(want))
	if e != api.OK || !slices.Equal(got, want) {
		t.Fatalf("Words(0, %d) = %v, %d, not %v", len(want), got, e, want)
	}
	for i, v := range want {
		if w, e := m.Read(i); w != v || e != api.OK {
			t.Fatalf("Read(%d) = %d, %d, not %d", i, w, e, v)
		}
	}
}

// numbered are the words 100, 101, and so on.
func numbered(n int) []uint64 {
	l := make([]uint64, n)
	for i := range l {
		l[i] = uint64(100 + i)
	}
	return l
}

// lacking are places and counts that a memory of size words does not have, sums that wrap round among them.
func lacking(size int) [][2]int {
	l := [][2]int{{-1, 0}, {0, -1}, {size, -1}, {-1, size}, {-1, size + 1}, {-size, size}, {1, math.MaxInt}, {size, math.MaxInt}, {math.MaxInt, 1}, {math.MaxInt, math.MaxInt}, {1 << 62, 1 << 62}, {math.MinInt, math.MinInt}, {math.MinInt, math.MaxInt}, {math.MaxInt, math.MinInt}, {math.MaxInt, -math.MaxInt}, {-math.MaxInt, math.MaxInt}}
	for at := range size + 2 {
		l = append(l, [2]int{at, size + 1 - at}, [2]int{at, size + 2 - at}, [2]int{at, math.MaxInt - at}, [2]int{at, math.MaxInt - at + 1})
	}
	for _, w := range wrong {
		l = append(l, [2]int{w, 0}, [2]int{w, 1}, [2]int{0, w}, [2]int{1, w}, [2]int{w, w})
	}
	// Some of the pairs made above do fit the one or the other size.
	return slices.DeleteFunc(l, func(p [2]int) bool {
		return p[0] >= 0 && p[1] >= 0 && p[0] <= size && p[1] <= size && p[0]+p[1] <= size
	})
}

func TestP21New(t *testing.T) {
	for _, n := range []int{1, 2, 3, 64, 1000, 65535, 65536} {
		m, e := memory.New(n)
		if m == nil || e != api.OK {
			t.Fatalf("New(%d) = %v, %d", n, m, e)
		}
		check(t, m, make([]uint64, n)...)
		if _, e := m.Read(n); e != api.ErrMemoryAt {
			t.Errorf("New(%d): Read(%d): error %d", n, n, e)
		}
	}
}

func TestP21NewWrong(t *testing.T) {
	for _, n := range append([]int{0, 65537, 65538, 131072}, wrong...) {
		if m, e := memory.New(n); m != nil || e != api.ErrArg {
			t.Errorf("New(%d) = %v, %d", n, m, e)
		}
	}
}

func TestP21EachItsOwn(t *testing.T) {
	a, b := made(t, 1, 2, 3), made(t, 4, 5, 6)
	a.Fill(0, 3, 9)
	check(t, a, 9, 9, 9)
	check(t, b, 4, 5, 6)
}

func TestP22ReadAndWrite(t *testing.T) {
	for _, n := range []int{1, 2, 65536} {
		m := made(t, numbered(n)...)
		check(t, m, numbered(n)...)
		for _, v := range []uint64{allBits, 1 << 63, 1, 0} {
			for _, at := range []int{0, n / 2, n - 1} {
				if e := m.Write(at, v); e != api.OK {
					t.Errorf("Write(%d, %#x): error %d", at, v, e)
				}
				if w, e := m.Read(at); w != v || e != api.OK {
					t.Errorf("Read(%d) = %#x, %d, not %#x", at, w, e, v)
				}
			}
		}
	}
}

func TestP22ReadAndWriteWrong(t *testing.T) {
	for _, n := range []int{1, 6, 65536} {
		m := made(t, numbered(n)...)
		for _, at := range append([]int{n, n + 1, 2 * n, -n}, wrong...) {
			if v, e := m.Read(at); v != 0 || e != api.ErrMemoryAt {
				t.Errorf("of %d: Read(%d) = %d, %d", n, at, v, e)
			}
			if e := m.Write(at, 7); e != api.ErrMemoryAt {
				t.Errorf("of %d: Write(%d, 7): error %d", n, at, e)
			}
		}
		check(t, m, numbered(n)...)
	}
}

func TestP22Words(t *testing.T) {
	for _, n := range []int{1, 2, 7} {
		all := numbered(n)
		m := made(t, all...)
		for at := range n + 1 {
			for k := range n - at + 1 {
				if l, e := m.Words(at, k); e != api.OK || !slices.Equal(l, all[at:at+k]) {
					t.Errorf("of %d: Words(%d, %d) = %v, %d", n, at, k, l, e)
				}
			}
		}
		check(t, m, all...)
	}
	m := made(t, numbered(65536)...)
	for _, p := range [][2]int{{0, 65536}, {1, 65535}, {65535, 1}, {65536, 0}, {0, 0}} {
		if l, e := m.Words(p[0], p[1]); e != api.OK || !slices.Equal(l, numbered(65536)[p[0]:p[0]+p[1]]) {
			t.Errorf("Words(%d, %d): %d words, %d", p[0], p[1], len(l), e)
		}
	}
}

func TestP22WordsWrong(t *testing.T) {
	for _, n := range []int{1, 6, 65536} {
		m := made(t, numbered(n)...)
		for _, p := range lacking(n) {
			if l, e := m.Words(p[0], p[1]); l != nil || e != api.ErrMemoryAt {
				t.Errorf("of %d: Words(%d, %d) = %v, %d", n, p[0], p[1], l, e)
			}
		}
		check(t, m, numbered(n)...)
	}
}

// What is told is the caller's own, the room behind it too, and so is it told anew each time.
func TestP22WordsAreOnesOwn(t *testing.T) {
	m := made(t, 1, 2, 3, 4)
	l, _ := m.Words(1, 2)
	other, _ := m.Words(1, 2)
	spoil(l)
	check(t, m, 1, 2, 3, 4)
	if !slices.Equal(other, []uint64{2, 3}) {
		t.Errorf("another list is %v", other)
	}
	m.Fill(0, 4, 8)
	if !slices.Equal(other, []uint64{2, 3}) || !slices.Equal(l, []uint64{77, 77}) {
		t.Errorf("lists told before the fill are %v, %v", l, other)
	}
	none, _ := m.Words(1, 0)
	spoil(none)
	whole, _ := m.Words(0, 4)
	spoil(whole)
	check(t, m, 8, 8, 8, 8)
}

// spoil writes over a list and all the room behind it.
func spoil(l []uint64) {
	l = l[:cap(l)]
	for i := range l {
		l[i] = 77
	}
}

func TestP22Fill(t *testing.T) {
	for _, n := range []int{1, 2, 7} {
		for at := range n + 1 {
			for k := range n - at + 1 {
				for _, v := range []uint64{0, 1, 9, allBits} {
					m, want := made(t, numbered(n)...), numbered(n)
					for i := range k {
						want[at+i] = v
					}
					if e := m.Fill(at, k, v); e != api.OK {
						t.Errorf("of %d: Fill(%d, %d, %#x): error %d", n, at, k, v, e)
					}
					check(t, m, want...)
				}
			}
		}
	}
	m := made(t, numbered(65536)...)
	for _, v := range []uint64{5, 0, allBits} {
		if e := m.Fill(0, 65536, v); e != api.OK {
			t.Errorf("Fill(0, 65536, %#x): error %d", v, e)
		}
		check(t, m, slices.Repeat([]uint64{v}, 65536)...)
	}
}

func TestP22FillWrong(t *testing.T) {
	for _, n := range []int{1, 6, 65536} {
		m := made(t, numbered(n)...)
		for _, p := range lacking(n) {
			for _, v := range []uint64{0, 9} {
				if e := m.Fill(p[0], p[1], v); e != api.ErrMemoryAt {
					t.Errorf("of %d: Fill(%d, %d, %d): error %d", n, p[0], p[1], v, e)
				}
			}
		}
		check(t, m, numbered(n)...)
	}
}

// Every move of 7 words at most is tried: none at all, also from the end on, all, and all that overlap, either way.
func TestP22Move(t *testing.T) {
	for _, n := range []int{1, 2, 3, 7} {
		for k := range n + 1 {
			for to := range n - k + 1 {
				for from := range n - k + 1 {
					m, want := made(t, numbered(n)...), numbered(n)
					for i, v := range numbered(n)[from : from+k] {
						want[to+i] = v
					}
					if e := m.Move(to, from, k); e != api.OK {
						t.Errorf("of %d: Move(%d, %d, %d): error %d", n, to, from, k, e)
					}
					check(t, m, want...)
				}
			}
		}
	}
}

func TestP22MoveExamples(t *testing.T) {
	m, _ := memory.New(4)
	if e := m.Write(1, 7); e != api.OK {
		t.Errorf("Write(1, 7): error %d", e)
	}
	if e := m.Move(2, 1, 2); e != api.OK {
		t.Errorf("Move(2, 1, 2): error %d", e)
	}
	check(t, m, 0, 7, 7, 0)
	m = made(t, numbered(65536)...)
	want := numbered(65536)
	copy(want[1:], numbered(65535))
	if e := m.Move(1, 0, 65535); e != api.OK {
		t.Errorf("Move(1, 0, 65535): error %d", e)
	}
	check(t, m, want...)
	copy(want[3:5], []uint64{want[65534], want[65535]})
	if e := m.Move(3, 65534, 2); e != api.OK {
		t.Errorf("Move(3, 65534, 2): error %d", e)
	}
	check(t, m, want...)
	if e := m.Move(65536, 65536, 0); e != api.OK {
		t.Errorf("Move(65536, 65536, 0): error %d", e)
	}
	check(t, m, want...)
}

// Words must be there at both ends: one end alone that lacks them is enough for the error.
func TestP22MoveWrong(t *testing.T) {
	for _, n := range []int{1, 6, 65536} {
		m := made(t, numbered(n)...)
		for _, p := range lacking(n) {
			for _, other := range []int{0, n / 2, n, p[0]} {
				if e := m.Move(p[0], other, p[1]); e != api.ErrMemoryAt {
					t.Errorf("of %d: Move(%d, %d, %d): error %d", n, p[0], other, p[1], e)
				}
				if e := m.Move(other, p[0], p[1]); e != api.ErrMemoryAt {
					t.Errorf("of %d: Move(%d, %d, %d): error %d", n, other, p[0], p[1], e)
				}
			}
		}
		check(t, m, numbered(n)...)
	}
}

func TestP23Copy(t *testing.T) {
	for _, n := range []int{1, 5, 65536} {
		m := made(t, numbered(n)...)
		c := m.Copy()
		check(t, c, numbered(n)...)
		check(t, m, numbered(n)...)
		if _, e := c.Read(n); e != api.ErrMemoryAt {
			t.Errorf("a copy of %d: Read(%d): error %d", n, n, e)
		}
	}
}

// From its making on a copy goes its own way, whoever is changed, and by whichever call.
func TestP23CopyGoesItsOwnWay(t *testing.T) {
	for _, change := range []func(*memory.Memory) api.Errno{
		func(m *memory.Memory) api.Errno { return m.Write(2, 9) },
		func(m *memory.Memory) api.Errno { return m.Fill(0, 5, 9) },
		func(m *memory.Memory) api.Errno { return m.Fill(0, 5, 0) },
		func(m *memory.Memory) api.Errno { return m.Move(0, 1, 4) },
	} {
		m := made(t, numbered(5)...)
		c := m.Copy()
		if e := change(m); e != api.OK {
			t.Errorf("error %d", e)
		}
		check(t, c, numbered(5)...)
		d := c.Copy()
		if e := change(d); e != api.OK {
			t.Errorf("error %d", e)
		}
		check(t, c, numbered(5)...)
		was, _ := m.Words(0, 5)
		check(t, d, was...)
		if slices.Equal(was, numbered(5)) {
			t.Errorf("nothing is changed: %v", was)
		}
	}
}

// Many calls, among them wrong ones, against a plain list: what is written is read, all else stays.
func TestP24WhatIsWrittenIsRead(t *testing.T) {
	const size = 9
	m, want := made(t, numbered(size)...), numbered(size)
	copies, told := []*memory.Memory{}, [][]uint64{}
	seed := uint64(1)
	next := func(n int) int {
		seed = seed*6364136223846793005 + 1442695040888963407
		return int(seed>>33) % n
	}
	for step := range 5000 {
		to, from, n, v := next(size+3)-1, next(size+3)-1, next(size+3)-1, uint64(step)
		there := func(at, n int) bool { return at >= 0 && n >= 0 && at+n <= size }
		e, is := api.OK, false
		switch next(3) {
		case 0:
			if e, is = m.Write(to, v), there(to, 1); is {
				want[to] = v
			}
		case 1:
			if e, is = m.Fill(to, n, v), there(to, n); is {
				for i := range n {
					want[to+i] = v
				}
			}
		case 2:
			if e, is = m.Move(to, from, n), there(to, n) && there(from, n); is {
				for i, v := range slices.Clone(want[from : from+n]) {
					want[to+i] = v
				}
			}
		}
		if is && e != api.OK || !is && e != api.ErrMemoryAt {
			t.Fatalf("step %d: to %d, from %d, n %d: error %d", step, to, from, n, e)
		}
		check(t, m, want...)
		if step%500 == 0 {
			copies, told = append(copies, m.Copy()), append(told, slices.Clone(want))
		}
	}
	for i, c := range copies {
		check(t, c, told[i]...)
	}
}

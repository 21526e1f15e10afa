package order_test

import (
	"fmt"
	"math"
	"slices"
	"testing"

	"buttress/api"
	"buttress/order"
)

// far are no numbers of cores, of kinds, nor of how many cores there are; many have the lowest bits of one that is.
var far = []int{
	math.MinInt, math.MinInt + 1, -1 << 32, 1 - 1<<32, -257, -256, -255, -9, -8, -2, -1,
	9, 10, 16, 17, 64, 65, 255, 256, 257, 1 << 16, 1<<16 + 1, 1 << 31, 1 << 32, 1<<32 + 1, 1 << 62, math.MaxInt - 1, math.MaxInt,
}

func enter(core, n int) api.Seen { return api.Seen{Kind: api.SeenEnter, Core: core, N: n} }
func load(core, n int) api.Seen  { return api.Seen{Kind: api.SeenLoad, Core: core, N: n} }
func irq(core, n int) api.Seen   { return api.Seen{Kind: api.SeenIrq, Core: core, N: n} }
func tick(core int) api.Seen     { return api.Seen{Kind: api.SeenTick, Core: core} }

func did(core, n int, told api.Told) api.Seen {
	return api.Seen{Kind: api.SeenDid, Core: core, N: n, T: told}
}

func left(core, n int, told api.Told) api.Seen {
	return api.Seen{Kind: api.SeenLeft, Core: core, N: n, T: told}
}

// nil0 is told by a call that came to nothing.
var nil0 = api.Told{}

// told0 is told by a call that came to something of each kind.
func told0() api.Told {
	return api.Told{E: api.ErrArg, W: 7, Wakes: 3, Forget: []api.Line{line(1), line(2)}}
}

func line(n int) api.Line {
	return api.Line{Space: n, Page: n + 10, P: api.Page{Frame: n + 20, Rights: n + 1}}
}

// over is a call from its entering to its end.
func over(core, n int) []api.Seen {
	return []api.Seen{enter(core, n), did(core, n, told0()), left(core, n, told0())}
}

// tells holds all that order tells of what was seen to what it should.
func tells(t *testing.T, cores int, l []api.Seen, want answers) {
	t.Helper()
	if got := asked(cores, l); got.text() != want.text() {
		t.Fatalf("of %d cores, %+v: %s\nnot %s", cores, l, got.text(), want.text())
	}
}

// follows holds it to what is looked for in the list itself, and answers that.
func follows(t *testing.T, cores int, l []api.Seen) answers {
	t.Helper()
	want := plain(cores, l)
	tells(t, cores, l, want)
	return want
}

// seen is a list of lists.
func seen(parts ...[]api.Seen) []api.Seen { return slices.Concat(parts...) }

// allows holds that one may be behind others, which all may; refuses, that it may not.
func allows(t *testing.T, cores int, l []api.Seen, x api.Seen) {
	t.Helper()
	l = append(slices.Clone(l), x)
	if n := order.First(cores, l); n != -1 {
		t.Errorf("of %d cores, %+v: First = %d", cores, l, n)
	}
	follows(t, cores, l)
}

func refuses(t *testing.T, cores int, l []api.Seen, x api.Seen) {
	t.Helper()
	at := len(l)
	l = append(slices.Clone(l), x)
	// What stands behind one that may not be is not looked at any more.
	for _, behind := range [][]api.Seen{nil, over(0, 1), {x, x}, {enter(-1, 0)}} {
		long := seen(l, behind)
		if n := order.First(cores, long); n != at {
			t.Errorf("of %d cores, %+v: First = %d, not %d", cores, long, n, at)
		}
		follows(t, cores, long)
	}
}

func TestExamples(t *testing.T) {
	tells(t, 1, over(0, 0), answers{-1, nil, []int{0}, 0})
	tells(t, 1, []api.Seen{did(0, 0, nil0)}, answers{0, nil, []int{0}, 0})
	tells(t, 2, []api.Seen{enter(0, 0), enter(1, 0), did(1, 0, nil0)}, answers{2, []int{0, 1}, []int{0}, 0})
}

func TestNothing(t *testing.T) {
	for _, cores := range append([]int{0, 1, 2, 8}, far...) {
		tells(t, cores, nil, answers{first: -1})
		tells(t, cores, []api.Seen{}, answers{first: -1})
	}
}

// TestP201Cores: none may be of too few cores, or too many.
func TestP201Cores(t *testing.T) {
	l := over(0, 4)
	for cores := 1; cores <= 8; cores++ {
		tells(t, cores, l, answers{-1, nil, []int{4}, 0})
		for core := range cores {
			allows(t, cores, nil, enter(core, 5))
			allows(t, cores, nil, load(core, 5))
			allows(t, cores, nil, irq(core, 5))
			allows(t, cores, nil, tick(core))
			tells(t, cores, over(core, 5), answers{-1, nil, []int{5}, 0})
		}
	}
	for _, cores := range append([]int{0}, far...) {
		for _, x := range append(slices.Clone(l), load(0, 0), irq(0, 0), tick(0)) {
			refuses(t, cores, nil, x)
		}
		tells(t, cores, l, answers{0, nil, []int{4}, 0})
		tells(t, cores, seen(l, l, []api.Seen{enter(0, 1)}), answers{0, nil, []int{4, 4}, 0})
	}
}

// TestP201Core: none may be of a core that there is not, whoever stands in line.
func TestP201Core(t *testing.T) {
	for cores := 1; cores <= 8; cores++ {
		for _, core := range append([]int{cores, cores + 1}, far...) {
			for kind := range api.Seens {
				x := api.Seen{Kind: kind, Core: core}
				refuses(t, cores, nil, x)
				refuses(t, cores, []api.Seen{enter(0, 0)}, x)
				refuses(t, cores, []api.Seen{enter(0, 0), did(0, 0, nil0)}, x)
				refuses(t, cores, over(0, 0), x)
			}
		}
	}
}

// TestP201Kind: none may be of a kind that there is not, whoever stands in line.
func TestP201Kind(t *testing.T) {
	for _, kind := range append([]int{api.Seens, api.Seens + 1}, far...) {
		x := api.Seen{Kind: kind}
		refuses(t, 2, nil, x)
		refuses(t, 2, []api.Seen{enter(0, 0)}, x)
		refuses(t, 2, []api.Seen{enter(1, 0)}, x)
		refuses(t, 2, []api.Seen{enter(0, 0), did(0, 0, nil0)}, x)
		refuses(t, 2, over(0, 0), x)
	}
}

func TestP201Enter(t *testing.T) {
	for _, n := range append([]int{0, 1, 5}, far...) {
		allows(t, 2, nil, enter(0, n))
		allows(t, 2, []api.Seen{enter(1, 0)}, enter(0, n))
		allows(t, 2, []api.Seen{enter(1, n), did(1, n, nil0)}, enter(0, n))
		allows(t, 2, over(0, 3), enter(0, n))
		refuses(t, 2, []api.Seen{enter(0, 0)}, enter(0, n))
		refuses(t, 2, []api.Seen{enter(0, 0), did(0, 0, nil0)}, enter(0, n))
		refuses(t, 2, []api.Seen{enter(1, 0), enter(0, 0)}, enter(0, n))
		refuses(t, 2, []api.Seen{enter(0, 0), enter(1, 0)}, enter(0, n))
		// The number that a call has is the one with which it entered, whatever it is.
		tells(t, 1, over(0, n), answers{-1, nil, []int{n}, 0})
	}
	full := []api.Seen{}
	for core := range 8 {
		allows(t, 8, full, enter(core, core))
		full = append(full, enter(core, core))
	}
	for core := range 8 {
		refuses(t, 8, full, enter(core, core))
	}
}

func TestP201Did(t *testing.T) {
	both := []api.Seen{enter(0, 4), enter(1, 5)}
	allows(t, 2, both, did(0, 4, nil0))
	allows(t, 2, both, did(0, 4, told0()))
	refuses(t, 2, nil, did(0, 0, nil0))
	refuses(t, 2, both, did(1, 5, nil0))
	refuses(t, 2, both, did(1, 4, nil0))
	refuses(t, 2, []api.Seen{enter(1, 0)}, did(0, 0, nil0))
	for _, n := range append([]int{0, 3, 5, 4 + 256, 4 + 1<<16, 4 + 1<<32}, far...) {
		refuses(t, 2, both, did(0, n, nil0))
	}
	done := append(slices.Clone(both), did(0, 4, nil0))
	refuses(t, 2, done, did(0, 4, nil0))
	refuses(t, 2, done, did(0, 4, told0()))
	refuses(t, 2, done, did(0, 5, nil0))
	refuses(t, 2, done, did(1, 5, nil0))
	next := append(done, left(0, 4, nil0))
	allows(t, 2, next, did(1, 5, nil0))
	refuses(t, 2, next, did(0, 4, nil0))
	refuses(t, 2, next, did(1, 4, nil0))
	// Who comes back has the number with which it came back.
	again := append(slices.Clone(next), enter(0, 6), did(1, 5, nil0), left(1, 5, nil0))
	allows(t, 2, again, did(0, 6, nil0))
	refuses(t, 2, again, did(0, 4, nil0))
	refuses(t, 2, again, did(1, 5, nil0))
}

func TestP201Left(t *testing.T) {
	both := []api.Seen{enter(0, 4), enter(1, 5)}
	done := append(slices.Clone(both), did(0, 4, nil0))
	allows(t, 2, done, left(0, 4, nil0))
	refuses(t, 2, nil, left(0, 0, nil0))
	refuses(t, 2, both, left(0, 4, nil0))
	refuses(t, 2, both, left(1, 5, nil0))
	refuses(t, 2, done, left(1, 5, nil0))
	refuses(t, 2, done, left(1, 4, nil0))
	refuses(t, 2, done, left(0, 4, told0()))
	for _, n := range append([]int{0, 3, 5, 4 + 256, 4 + 1<<16, 4 + 1<<32}, far...) {
		refuses(t, 2, done, left(0, n, nil0))
	}
	gone := append(slices.Clone(done), left(0, 4, nil0))
	refuses(t, 2, gone, left(0, 4, nil0))
	refuses(t, 2, gone, left(1, 5, nil0))
	// What was done earlier is not done once more when a core comes back.
	back := append(slices.Clone(gone), did(1, 5, nil0), left(1, 5, nil0), enter(0, 4))
	refuses(t, 2, back, left(0, 4, nil0))
	allows(t, 2, back, did(0, 4, nil0))
}

// others are told by calls that came to something else than told0.
func others() []api.Told {
	var l []api.Told
	change := func(f func(*api.Told)) {
		x := told0()
		f(&x)
		l = append(l, x)
	}
	for _, e := range []api.Errno{api.OK, api.ErrBig, -1, 1 + 256, 1 + 1<<32} {
		change(func(x *api.Told) { x.E = e })
	}
	for _, w := range []uint64{0, 6, 8, 7 + 1<<8, 7 + 1<<32, 7 + 1<<63, 1<<64 - 1} {
		change(func(x *api.Told) { x.W = w })
	}
	for _, n := range []int{-1, 0, 2, 4, 3 + 256, 3 + 1<<32, math.MinInt + 3} {
		change(func(x *api.Told) { x.Wakes = n })
	}
	for _, f := range [][]api.Line{nil, {}, {line(1)}, {line(2)}, {line(2), line(1)}, {line(1), line(1)}, {line(2), line(2)}, {line(1), line(2), line(2)}, {line(0), line(1), line(2)}, {line(1), line(2), {}}} {
		change(func(x *api.Told) { x.Forget = f })
	}
	for at := range 2 {
		change(func(x *api.Told) { x.Forget[at].Space++ })
		change(func(x *api.Told) { x.Forget[at].Page++ })
		change(func(x *api.Told) { x.Forget[at].P.Frame++ })
		change(func(x *api.Told) { x.Forget[at].P.Rights++ })
	}
	return append(l, nil0)
}

// TestP201Told: who leaves tells what it was told when it did its call, E, W, Wakes and all of Forget.
func TestP201Told(t *testing.T) {
	start := []api.Seen{enter(0, 4), enter(1, 5)}
	one := append(slices.Clone(start), did(0, 4, told0()))
	allows(t, 2, one, left(0, 4, told0()))
	for _, x := range others() {
		refuses(t, 2, one, left(0, 4, x))
		another := append(slices.Clone(start), did(0, 4, x))
		refuses(t, 2, another, left(0, 4, told0()))
		allows(t, 2, another, left(0, 4, x))
	}
	none, empty := api.Told{W: 1}, api.Told{W: 1, Forget: []api.Line{}}
	allows(t, 1, []api.Seen{enter(0, 4), did(0, 4, none)}, left(0, 4, empty))
	allows(t, 1, []api.Seen{enter(0, 4), did(0, 4, empty)}, left(0, 4, none))
	// What was told of an earlier call, or of another core's, does not count.
	second := seen(over(1, 4), []api.Seen{enter(1, 4), did(1, 4, nil0)})
	refuses(t, 2, second, left(1, 4, told0()))
	allows(t, 2, second, left(1, 4, nil0))
	behind := seen([]api.Seen{enter(1, 4)}, []api.Seen{enter(0, 4), did(1, 4, told0()), left(1, 4, told0()), did(0, 4, nil0)})
	refuses(t, 2, behind, left(0, 4, told0()))
	allows(t, 2, behind, left(0, 4, nil0))
}

// TestP201Load: a user looks at pages unless its core stands in line, whoever else does.
func TestP201Load(t *testing.T) {
	for _, n := range append([]int{0, 3}, far...) {
		allows(t, 2, nil, load(1, n))
		allows(t, 2, []api.Seen{enter(0, 0)}, load(1, n))
		allows(t, 2, []api.Seen{enter(0, 0), did(0, 0, nil0)}, load(1, n))
		allows(t, 2, over(1, 0), load(1, n))
		refuses(t, 2, []api.Seen{enter(1, n)}, load(1, n))
		refuses(t, 2, []api.Seen{enter(0, 0), enter(1, n)}, load(1, n))
		refuses(t, 2, []api.Seen{enter(1, n), did(1, n, nil0)}, load(1, n))
	}
	tells(t, 2, []api.Seen{load(1, 3), enter(0, 0), load(1, 3), load(1, 4), did(0, 0, nil0), load(1, 3)}, answers{-1, []int{0}, []int{0}, 0})
}

// TestP201Alone: lines are raised and ticks pass when nobody stands in line, not even another core.
func TestP201Alone(t *testing.T) {
	for core := range 3 {
		for _, n := range append([]int{0, 3}, far...) {
			for _, x := range []api.Seen{irq(core, n), {Kind: api.SeenTick, Core: core, N: n, Is: true}} {
				allows(t, 3, nil, x)
				allows(t, 3, over(core, 0), x)
				allows(t, 3, []api.Seen{load(0, 0)}, x)
				for _, other := range []int{0, 1, 2} {
					refuses(t, 3, []api.Seen{enter(other, n)}, x)
					refuses(t, 3, []api.Seen{enter(other, n), did(other, n, nil0)}, x)
				}
				refuses(t, 3, seen([]api.Seen{enter(0, 1), enter(1, 1)}, []api.Seen{did(0, 1, nil0), left(0, 1, nil0)}), x)
			}
		}
	}
}

// TestP201Rest: what else stands in one does not matter: whether it may be hangs on its kind, its core, and, of a call, on its number and on what was told.
func TestP201Rest(t *testing.T) {
	spoilt := func(x api.Seen) api.Seen {
		x.P, x.Is = api.Page{Frame: 3, Rights: 7}, !x.Is
		if x.Kind != api.SeenDid && x.Kind != api.SeenLeft {
			x.T = told0()
		}
		return x
	}
	for _, l := range [][]api.Seen{over(0, 1), {load(0, 1), irq(1, 2), tick(1)}, {enter(0, 1), enter(1, 1), did(0, 1, nil0), left(0, 1, nil0), load(0, 3), did(1, 1, told0())}} {
		want := plain(2, l)
		for n := range l {
			l[n] = spoilt(l[n])
			tells(t, 2, l, want)
		}
	}
}

func TestP202Line(t *testing.T) {
	l := []api.Seen{enter(2, 0), enter(0, 0), load(1, 0), enter(1, 0), did(2, 0, nil0), left(2, 0, nil0), enter(2, 0), did(0, 0, nil0), left(0, 0, nil0), tick(0), did(1, 0, nil0)}
	for n, want := range [][]int{nil, {2}, {2, 0}, {2, 0}, {2, 0, 1}, {2, 0, 1}, {0, 1}, {0, 1, 2}, {0, 1, 2}, {1, 2}, {1, 2}, {1, 2}} {
		if got := order.Line(3, l[:n]); !slices.Equal(got, want) {
			t.Errorf("behind %d of them Line = %v, not %v", n, got, want)
		}
	}
	// A tick may not be while two stand in line: it and what is behind it is not among them.
	if n := order.First(3, l); n != 9 {
		t.Errorf("First = %d", n)
	}
}

// TestP202LineAll: any order of all cores.
func TestP202LineAll(t *testing.T) {
	var deeper func(l []api.Seen, want []int)
	deeper = func(l []api.Seen, want []int) {
		tells(t, 6, l, answers{-1, want, nil, 0})
		for core := range 6 {
			if !slices.Contains(want, core) {
				deeper(append(slices.Clone(l), enter(core, core)), append(slices.Clone(want), core))
			}
		}
	}
	deeper(nil, nil)
}

// TestP202Calls: what was done is told of all, whether it may be or not.
func TestP202Calls(t *testing.T) {
	for _, x := range []struct {
		l    []api.Seen
		want []int
	}{
		{over(0, 4), []int{4}},
		{seen(over(1, 4), over(0, 3), over(1, 4)), []int{4, 3, 4}},
		{[]api.Seen{enter(0, 1), load(0, 2), irq(0, 3), tick(0), left(0, 4, nil0)}, nil},
		{[]api.Seen{did(0, 9, nil0)}, []int{9}},
		{[]api.Seen{did(99, -1, told0()), did(-1, 0, nil0), {Kind: api.Seens, N: 1}, {Kind: -1, N: 2}, did(0, math.MaxInt, nil0)}, []int{-1, 0, math.MaxInt}},
		{[]api.Seen{enter(0, 1), enter(0, 1), did(0, 7, nil0), did(1, 8, nil0)}, []int{7, 8}},
	} {
		if got := order.Calls(x.l); !slices.Equal(got, x.want) {
			t.Errorf("%+v: Calls = %v, not %v", x.l, got, x.want)
		}
	}
}

// does is a call that is in line already.
func does(core, n int) []api.Seen {
	return []api.Seen{did(core, n, nil0), left(core, n, nil0)}
}

func TestP202Waits(t *testing.T) {
	for _, x := range []struct {
		cores, want int
		l           []api.Seen
	}{
		{1, 0, seen(over(0, 1), over(0, 1), over(0, 1))},
		{3, 0, seen(over(0, 1), over(1, 1), over(2, 1))},
		{2, 1, seen([]api.Seen{enter(0, 1), enter(1, 1)}, does(0, 1), does(1, 1))},
		// Those that still stand in line did not leave.
		{2, 0, seen([]api.Seen{enter(0, 1), enter(1, 1)}, does(0, 1))},
		{2, 0, seen([]api.Seen{enter(0, 1), enter(1, 1)}, does(0, 1), []api.Seen{did(1, 1, nil0)})},
		{3, 0, seen([]api.Seen{enter(2, 1), enter(0, 1), enter(1, 1), did(2, 1, nil0), left(2, 1, nil0)})},
		{3, 2, seen([]api.Seen{enter(2, 1), enter(0, 1), enter(1, 1)}, does(2, 1), does(0, 1), does(1, 1))},
		// Those that left before it entered do not count.
		{3, 1, seen(over(2, 1), over(2, 2), []api.Seen{enter(2, 1), enter(0, 1)}, does(2, 1), does(0, 1))},
		{3, 1, seen([]api.Seen{enter(2, 1), enter(0, 1)}, does(2, 1), []api.Seen{enter(1, 1)}, does(0, 1), does(1, 1))},
		// Those that waited less before, or after, do not make it less.
		{3, 2, seen(over(0, 1), []api.Seen{enter(2, 1), enter(0, 1), enter(1, 1)}, does(2, 1), does(0, 1), does(1, 1), over(1, 1))},
		// A core that comes back stands behind those that came in between: its earlier entering does not count.
		{2, 1, seen([]api.Seen{enter(0, 1), enter(1, 1)}, does(0, 1), []api.Seen{enter(0, 2)}, does(1, 1), []api.Seen{enter(1, 2)}, does(0, 2), does(1, 2))},
		// What is behind one that may not be is not looked at.
		{2, 0, seen([]api.Seen{enter(0, 1), enter(1, 1), enter(0, 1)}, does(0, 1), does(1, 1))},
		{2, 0, seen([]api.Seen{enter(0, 1), enter(1, 1)}, does(0, 1), []api.Seen{did(1, 1, nil0), left(1, 1, told0()), left(1, 1, nil0)})},
		{2, 1, seen([]api.Seen{enter(0, 1), enter(1, 1)}, does(0, 1), does(1, 1), []api.Seen{tick(2)})},
	} {
		if got := order.Waits(x.cores, x.l); got != x.want {
			t.Errorf("of %d cores, %+v: Waits = %d, not %d", x.cores, x.l, got, x.want)
		}
		follows(t, x.cores, x.l)
	}
}

// TestP202WaitsMost: the last one of all that stand in line waits for all others.
func TestP202WaitsMost(t *testing.T) {
	for cores := 1; cores <= 8; cores++ {
		var l []api.Seen
		for core := range cores {
			l = append(l, enter(core, core))
		}
		for core := range cores {
			l = append(l, does(core, core)...)
			tells(t, cores, l, answers{-1, plainLine(l), order.Calls(l), core})
		}
	}
}

// TestKept: R4: what is handed in stays, the room behind it, too; what is answered is new memory.
func TestKept(t *testing.T) {
	made := func() []api.Seen {
		return append(seen(over(0, 1), []api.Seen{enter(0, 2), did(0, 2, told0()), enter(1, 3)}), enter(1, 9))[:6]
	}
	l := made()
	a, again := asked(2, l), asked(2, l)
	if got, want := fmt.Sprint(l[:7]), fmt.Sprint(made()[:7]); got != want {
		t.Errorf("there was handed in %s, now it is %s", want, got)
	}
	want := a.text()
	clear(l[4].T.Forget)
	clear(l[:7])
	if a.text() != want {
		t.Errorf("what was answered hangs on what was handed in: %s", a.text())
	}
	clear(a.line[:cap(a.line)])
	clear(a.calls[:cap(a.calls)])
	if again.text() != want {
		t.Errorf("what is answered twice shares memory: %s", again.text())
	}
	tells(t, 2, made(), again)
}

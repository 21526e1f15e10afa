package tlb_test

import (
	"fmt"
	"math"
	"slices"
	"testing"

	"buttress/api"
	"buttress/tlb"
)

// numbers may all be of a space, a page, a frame; many have the lowest bits of another one.
var numbers = []int{
	0, 1, 2, 5, 63, 64, 255, 256, 4095, 4096, 1 << 31, 1 << 32, 1<<32 + 5, 1 << 62, math.MaxInt - 1, math.MaxInt,
	-1, -2, -5, -64, -4096, -1 << 31, -1 << 32, 5 - 1<<32, math.MinInt, math.MinInt + 1, math.MinInt + 5,
}

// has holds what Lines tells to what it should be.
func has(t *testing.T, what string, k *tlb.Tlb, want ...api.Line) {
	t.Helper()
	if l := k.Lines(); !slices.Equal(l, want) {
		t.Fatalf("%s: Lines() = %+v, not %+v", what, l, want)
	}
}

// sees holds what Look tells of a page to what it should be.
func sees(t *testing.T, what string, k *tlb.Tlb, space, page int, want api.Page, wantIs bool) {
	t.Helper()
	if p, is := k.Look(space, page); p != want || is != wantIs {
		t.Fatalf("%s: Look(%d, %d) = %+v, %v, not %+v, %v", what, space, page, p, is, want, wantIs)
	}
}

// blind holds a page to be one of which nothing is remembered.
func blind(t *testing.T, what string, k *tlb.Tlb, space, page int) {
	t.Helper()
	sees(t, what, k, space, page, api.Page{}, false)
}

// looks holds all that a TLB tells to what it should be.
func looks(t *testing.T, what string, k *tlb.Tlb, want *plain) {
	t.Helper()
	l := want.lines()
	has(t, what, k, l...)
	for _, x := range l {
		sees(t, what, k, x.Space, x.Page, x.P, true)
		for _, other := range []key{{x.Space, x.Page + 1}, {x.Space, x.Page - 1}, {x.Space + 1, x.Page}, {x.Page, x.Space}, {x.Space, x.P.Frame}} {
			n, is := want.of[other]
			sees(t, what, k, other.space, other.page, n.p, is)
		}
	}
	has(t, what, k, l...)
}

// pair is a TLB, and what it should be.
type pair struct {
	k *tlb.Tlb
	p *plain
}

func (w *pair) copied() *pair {
	return &pair{w.k.Copy(), w.p.copied()}
}

// looks holds all that it tells to what it should be, and that a copy has as much room: filled with others, its lines go one by one.
func (w *pair) looks(t *testing.T, what string) {
	t.Helper()
	looks(t, what, w.k, w.p)
	c := w.copied()
	for i := range c.p.room + 1 {
		// No call of these tests fills in pages from there on.
		x := fill(77, 1<<40+i, 3, 3)
		x.of(c.k)
		x.ofPlain(c.p)
		has(t, what+", and a copy that is filled", c.k, c.p.lines()...)
	}
	has(t, what, w.k, w.p.lines()...)
}

// answers holds a call to what is told here.
func (w *pair) answers(t *testing.T, c call, want int) {
	t.Helper()
	if got := c.of(w.k); got != want {
		t.Fatalf("%+v answers %d, not %d; now there is %s", c, got, want, w.p.text())
	}
}

// follows does calls at both, and holds them to each other behind each.
func (w *pair) follows(t *testing.T, calls ...call) {
	t.Helper()
	for _, c := range calls {
		w.answers(t, c, c.ofPlain(w.p))
		looks(t, fmt.Sprintf("%+v", c), w.k, w.p)
	}
}

// does holds a call to what is told here, and to leave these lines.
func (w *pair) does(t *testing.T, c call, want int, lines ...api.Line) {
	t.Helper()
	w.copied().answers(t, c, want)
	w.follows(t, c)
	has(t, fmt.Sprintf("%+v", c), w.k, lines...)
}

// leaves holds calls to find no line, and to change nothing.
func (w *pair) leaves(t *testing.T, calls ...call) {
	t.Helper()
	for _, c := range calls {
		w.answers(t, c, 0)
	}
	looks(t, fmt.Sprintf("%+v that change nothing", calls), w.k, w.p)
}

// fresh is a TLB behind some calls.
func fresh(t *testing.T, room int, calls ...call) *pair {
	t.Helper()
	k, e := tlb.New(room)
	if e != api.OK || k == nil {
		t.Fatalf("New(%d) = %v, %d", room, k, e)
	}
	w := &pair{k, empty(room)}
	has(t, "New", k)
	w.follows(t, calls...)
	w.looks(t, "a new TLB")
	return w
}

// sixLines are of three spaces and three frames; all numbers but of the frame 9 are of several.
func sixLines() []api.Line {
	return []api.Line{line(0, 1, 5, 1), line(1, 1, 6, 2), line(0, 2, 5, 3), line(2, 0, 9, 0), line(1, 0, 5, 7), line(0, 0, 6, 4)}
}

// kinds are TLBs in each kind of state.
func kinds(t *testing.T) []*pair {
	t.Helper()
	six := sixLines()
	return []*pair{
		fresh(t, 1),
		fresh(t, 1, fill(0, 1, 5, 1)),
		fresh(t, 3),
		fresh(t, 3, fills(six[:1]...)...),
		fresh(t, 3, fills(six[:3]...)...),
		fresh(t, 3, fills(six...)...),
		fresh(t, 6, fills(six...)...),
		fresh(t, 8, fills(six...)...),
		fresh(t, 256, fills(six...)...),
		// These had more, so that there may be room behind the lines, and ahead of them.
		fresh(t, 6, append(fills(six...), drop(0, 0), drop(0, 1))...),
		fresh(t, 6, append(fills(six...), dropSpace(0), dropFrame(6))...),
		fresh(t, 6, append(fills(six...), dropSpace(0), dropSpace(1), dropSpace(2))...),
	}
}

func TestExample(t *testing.T) {
	w := fresh(t, 2)
	w.does(t, fill(0, 1, 11, 1), 0, line(0, 1, 11, 1))
	w.does(t, fill(0, 2, 12, 1), 0, line(0, 1, 11, 1), line(0, 2, 12, 1))
	w.does(t, fill(0, 1, 11, 1), 0, line(0, 2, 12, 1), line(0, 1, 11, 1))
	w.does(t, fill(0, 3, 13, 1), 0, line(0, 1, 11, 1), line(0, 3, 13, 1))
	sees(t, "the example", w.k, 0, 1, api.Page{Frame: 11, Rights: 1}, true)
	blind(t, "the example", w.k, 0, 2)
	sees(t, "the example", w.k, 0, 3, api.Page{Frame: 13, Rights: 1}, true)
}

// TestP151New: each room from 1 to 256 is that many lines; nothing is remembered at first.
func TestP151New(t *testing.T) {
	for room := 1; room <= 256; room++ {
		k, e := tlb.New(room)
		if e != api.OK || k == nil {
			t.Fatalf("New(%d) = %v, %d", room, k, e)
		}
		has(t, "New", k)
		blind(t, "New", k, 0, 0)
		var all []api.Line
		for i := range room + 3 {
			all = append(all, line(0, i, i, 1))
			k.Fill(all[i])
			has(t, fmt.Sprintf("room for %d, filled with %d", room, i+1), k, all[max(0, i+1-room):]...)
		}
	}
}

// TestP151NewWrong: R3: beside the error there is no TLB.
func TestP151NewWrong(t *testing.T) {
	for _, room := range []int{0, -1, -2, -255, -256, 257, 258, 511, 512, 1 << 31, 1 << 32, 1<<32 + 1, 1<<32 + 256, 1<<62 + 1,
		math.MaxInt - 1, math.MaxInt, math.MinInt, math.MinInt + 1, math.MinInt + 256, 1 - 1<<32, -1 << 31} {
		if k, e := tlb.New(room); k != nil || e != api.ErrArg {
			t.Errorf("New(%d) = %v, %d, not nil, %d", room, k, e, api.ErrArg)
		}
	}
}

// TestNewAlone: a new TLB finds nothing, and knows nothing of others.
func TestNewAlone(t *testing.T) {
	six := sixLines()
	a := fresh(t, 6, fills(six...)...)
	b := fresh(t, 6)
	for _, x := range six {
		b.leaves(t, drop(x.Space, x.Page), dropSpace(x.Space), dropFrame(x.P.Frame))
		blind(t, "another one", b.k, x.Space, x.Page)
	}
	b.follows(t, fill(0, 1, 8, 8), fill(3, 3, 3, 3), dropSpace(0))
	a.looks(t, "a TLB beside another one")
}

// TestP151FillInOrder: into none, into one that has room, into one that is full: the newest one is last, and the oldest one goes.
func TestP151FillInOrder(t *testing.T) {
	six := sixLines()
	for room := 1; room <= 8; room++ {
		w := fresh(t, room)
		for i, x := range six {
			w.does(t, fillLine(x), 0, six[max(0, i+1-room):i+1]...)
		}
		for _, x := range six[:max(0, 6-room)] {
			blind(t, "the oldest ones", w.k, x.Space, x.Page)
		}
	}
}

// TestP151FillAgain: a line whose page is there goes, and is the newest one as it is now; no other one goes, though it be full.
func TestP151FillAgain(t *testing.T) {
	six := sixLines()
	for room := 1; room <= 9; room++ {
		many := min(room, 6)
		for i, x := range six[:many] {
			for _, p := range []api.Page{x.P, {Frame: x.P.Frame, Rights: 6}, {Frame: 77, Rights: x.P.Rights}, {Frame: 78, Rights: 5}, {}} {
				w := fresh(t, room, fills(six[:many]...)...)
				again := api.Line{Space: x.Space, Page: x.Page, P: p}
				want := slices.Concat(six[:i], six[i+1:many], []api.Line{again})
				w.does(t, fillLine(again), 0, want...)
				w.does(t, fillLine(again), 0, want...)
				sees(t, "filled in again", w.k, x.Space, x.Page, p, true)
				w.does(t, fillLine(x), 0, append(want[:many-1:many-1], x)...)
				w.looks(t, "filled in again")
			}
		}
	}
}

// TestP151FillAgainIsNew: what was filled in again is the newest one also for what goes next.
func TestP151FillAgainIsNew(t *testing.T) {
	a, b, c, d, e := line(0, 1, 5, 1), line(0, 2, 5, 1), line(0, 3, 5, 1), line(0, 4, 5, 1), line(0, 5, 5, 1)
	w := fresh(t, 3, fills(a, b, c)...)
	w.does(t, fillLine(a), 0, b, c, a)
	w.does(t, fillLine(d), 0, c, a, d)
	w.does(t, fillLine(a), 0, c, d, a)
	w.does(t, fillLine(e), 0, d, a, e)
	w.does(t, fillLine(e), 0, d, a, e)
	w.does(t, fillLine(b), 0, a, e, b)
}

// TestP151FillNeighbours: the same page of another space is another one, and so is another page of the same space; a frame does not tell them apart.
func TestP151FillNeighbours(t *testing.T) {
	a, b, c, d := line(1, 2, 5, 1), line(2, 2, 5, 1), line(1, 1, 5, 1), line(2, 1, 5, 1)
	w := fresh(t, 4)
	w.does(t, fillLine(a), 0, a)
	w.does(t, fillLine(b), 0, a, b)
	w.does(t, fillLine(c), 0, a, b, c)
	w.does(t, fillLine(d), 0, a, b, c, d)
	w = fresh(t, 2, fills(a, b)...)
	w.does(t, fillLine(c), 0, b, c)
	w.does(t, fillLine(d), 0, c, d)
	w.does(t, fillLine(a), 0, d, a)
	w = fresh(t, 1, fillLine(a))
	w.does(t, fillLine(b), 0, b)
	w.does(t, fillLine(a), 0, a)
	w.does(t, fillLine(c), 0, c)
}

// TestP151FillBehindDrop: room that was made is used ahead of the oldest one's.
func TestP151FillBehindDrop(t *testing.T) {
	six := sixLines()
	for i, x := range six[:4] {
		w := fresh(t, 4, fills(six[:4]...)...)
		rest := slices.Concat(six[:i], six[i+1:4])
		w.does(t, drop(x.Space, x.Page), 1, rest...)
		w.does(t, fillLine(six[4]), 0, append(slices.Clone(rest), six[4])...)
		w.does(t, fillLine(six[5]), 0, append(slices.Clone(rest[1:]), six[4], six[5])...)
		w.does(t, fillLine(x), 0, append(slices.Clone(rest[2:]), six[4], six[5], x)...)
	}
}

// TestAnyNumbers: spaces, pages, frames and rights may be any numbers, and each is told from every other one.
func TestAnyNumbers(t *testing.T) {
	for _, a := range numbers {
		for _, b := range numbers {
			x := line(a, b, b, a)
			w := fresh(t, 3)
			w.does(t, fillLine(x), 0, x)
			sees(t, "any numbers", w.k, a, b, api.Page{Frame: b, Rights: a}, true)
			if a == b {
				continue
			}
			y, z := line(b, a, a, b), line(a, a, b, b)
			blind(t, "any numbers", w.k, b, a)
			w.leaves(t, drop(b, a), drop(a, a), drop(b, b), dropSpace(b), dropFrame(a))
			w.does(t, fillLine(y), 0, x, y)
			w.does(t, fillLine(z), 0, x, y, z)
			sees(t, "any numbers", w.k, a, a, api.Page{Frame: b, Rights: b}, true)
			w.copied().does(t, drop(a, b), 1, y, z)
			w.copied().does(t, dropSpace(a), 2, y)
			w.copied().does(t, dropSpace(b), 1, x, z)
			w.copied().does(t, dropFrame(b), 2, y)
			w.copied().does(t, dropFrame(a), 1, x, z)
			w.does(t, fillLine(line(a, b, a, a)), 0, y, z, line(a, b, a, a))
		}
	}
}

// TestAllNumbersAtOnce: no two of these are taken for one another.
func TestAllNumbersAtOnce(t *testing.T) {
	var ofSpaces, ofPages, ofFrames []api.Line
	for i, n := range numbers {
		ofSpaces = append(ofSpaces, line(n, 7, 8, i))
		ofPages = append(ofPages, line(7, n, 8, i))
		ofFrames = append(ofFrames, line(7, i, n, i))
	}
	s, p, f := fresh(t, 256, fills(ofSpaces...)...), fresh(t, 256, fills(ofPages...)...), fresh(t, 256, fills(ofFrames...)...)
	for i, n := range numbers {
		s.does(t, dropSpace(n), 1, ofSpaces[i+1:]...)
		p.does(t, drop(7, n), 1, ofPages[i+1:]...)
		f.does(t, dropFrame(n), 1, ofFrames[i+1:]...)
	}
}

// TestP152Look: what there is is told as it was filled in; of all else nothing.
func TestP152Look(t *testing.T) {
	for _, w := range kinds(t) {
		for range 2 {
			for _, space := range append([]int{3, 4}, numbers...) {
				for _, page := range append([]int{3, 4, 6, 9}, numbers...) {
					n, is := w.p.of[key{space, page}]
					sees(t, "Look", w.k, space, page, n.p, is)
				}
			}
		}
		w.looks(t, "a TLB that was looked at")
	}
	w := fresh(t, 6, fills(sixLines()...)...)
	for _, x := range sixLines() {
		sees(t, "six", w.k, x.Space, x.Page, x.P, true)
	}
	for _, k := range []key{{1, 2}, {2, 1}, {2, 2}, {3, 0}, {0, 3}, {0, 5}, {-1, 0}, {0, -1}} {
		blind(t, "six", w.k, k.space, k.page)
	}
}

// TestP152LookKeepsTheOrder: who is looked at is not the newer for it.
func TestP152LookKeepsTheOrder(t *testing.T) {
	six := sixLines()
	for i := range 3 {
		w := fresh(t, 3, fills(six[:3]...)...)
		for range 4 {
			sees(t, "Look", w.k, six[i].Space, six[i].Page, six[i].P, true)
			blind(t, "Look", w.k, 50, 50)
		}
		w.does(t, fillLine(six[3]), 0, six[1:4]...)
		w.does(t, fillLine(six[4]), 0, six[2:5]...)
	}
}

// TestP152ZeroPage: a page that is all zero is there as all others are.
func TestP152ZeroPage(t *testing.T) {
	w := fresh(t, 2)
	blind(t, "none", w.k, 0, 0)
	w.leaves(t, drop(0, 0), dropSpace(0), dropFrame(0))
	w.does(t, fillLine(api.Line{}), 0, api.Line{})
	sees(t, "zero", w.k, 0, 0, api.Page{}, true)
	w.copied().does(t, dropSpace(0), 1)
	w.copied().does(t, dropFrame(0), 1)
	w.does(t, drop(0, 0), 1)
	blind(t, "dropped", w.k, 0, 0)
	w.leaves(t, drop(0, 0))
	// Of lines that went nothing is left to be found, in whichever room they stood.
	w = fresh(t, 3, fills(sixLines()...)...)
	w.follows(t, dropFrame(5), dropFrame(6), dropFrame(9))
	w.leaves(t, drop(0, 0), dropSpace(0), dropFrame(0))
	has(t, "all went", w.k)
}

// TestP152Drop: that line goes, the oldest, the newest, one between; the others stay in their order.
func TestP152Drop(t *testing.T) {
	six := sixLines()
	for many := range 7 {
		for i, x := range six {
			w := fresh(t, 6, fills(six[:many]...)...)
			if i >= many {
				w.leaves(t, drop(x.Space, x.Page))
				continue
			}
			rest := slices.Concat(six[:i], six[i+1:many])
			w.does(t, drop(x.Space, x.Page), 1, rest...)
			blind(t, "dropped", w.k, x.Space, x.Page)
			w.leaves(t, drop(x.Space, x.Page), drop(x.Space, x.Page))
			w.does(t, fillLine(x), 0, append(rest, x)...)
			w.does(t, drop(x.Space, x.Page), 1, rest...)
		}
	}
	w := fresh(t, 6, fills(six...)...)
	for _, n := range []key{{1, 2}, {2, 1}, {2, 2}, {3, 1}, {1, 3}, {0, 5}, {5, 0}, {-1, 1}, {1, -1}, {math.MinInt, 1}, {1, math.MaxInt}, {1 << 32, 1}, {0, 1 << 32}} {
		w.leaves(t, drop(n.space, n.page))
	}
	for i := range six {
		x := six[5-i]
		w.does(t, drop(x.Space, x.Page), 1, six[:5-i]...)
	}
}

func TestP152Space(t *testing.T) {
	six := sixLines()
	w := fresh(t, 6, fills(six...)...)
	for _, n := range []int{3, 5, 6, 9, -1, 256, 1 << 32, 1<<32 + 1, math.MaxInt, math.MinInt} {
		w.leaves(t, dropSpace(n))
	}
	w.copied().does(t, dropSpace(2), 1, six[0], six[1], six[2], six[4], six[5])
	w.copied().does(t, dropSpace(1), 2, six[0], six[2], six[3], six[5])
	w.does(t, dropSpace(0), 3, six[1], six[3], six[4])
	w.leaves(t, dropSpace(0), dropSpace(0))
	w.does(t, dropSpace(1), 2, six[3])
	w.does(t, dropSpace(2), 1)
	w.leaves(t, dropSpace(0), dropSpace(1), dropSpace(2))
	w.does(t, fillLine(six[0]), 0, six[0])
	w.does(t, dropSpace(0), 1)
}

func TestP152Frame(t *testing.T) {
	six := sixLines()
	w := fresh(t, 6, fills(six...)...)
	for _, n := range []int{0, 1, 2, 3, 7, 8, -1, -5, 256, 1<<32 + 5, 1 << 32, math.MaxInt, math.MinInt} {
		w.leaves(t, dropFrame(n))
	}
	w.copied().does(t, dropFrame(9), 1, six[0], six[1], six[2], six[4], six[5])
	w.copied().does(t, dropFrame(6), 2, six[0], six[2], six[3], six[4])
	w.does(t, dropFrame(5), 3, six[1], six[3], six[5])
	w.leaves(t, dropFrame(5), dropFrame(5))
	w.does(t, dropFrame(6), 2, six[3])
	w.does(t, dropFrame(9), 1)
	w.leaves(t, dropFrame(5), dropFrame(6), dropFrame(9))
	// What a page was before it was filled in again does not count.
	w = fresh(t, 6, fill(0, 1, 5, 1), fill(0, 1, 6, 1))
	w.leaves(t, dropFrame(5))
	w.does(t, dropFrame(6), 1)
}

// TestP152AllAtOnce: as many as there is room go at one call, and there is room for as many then.
func TestP152AllAtOnce(t *testing.T) {
	for _, room := range []int{1, 2, 3, 17, 255, 256} {
		for _, c := range []call{dropSpace(4), dropFrame(5)} {
			w := fresh(t, room)
			for range 2 {
				var all []api.Line
				for i := range room {
					all = append(all, line(4, i, 5, i%8))
				}
				w.follows(t, fills(all...)...)
				has(t, "full", w.k, all...)
				w.does(t, c, room)
				w.leaves(t, c)
			}
		}
	}
}

// TestP152EveryOther: of lines that stand by turns those that are meant go, and the others stay in their order.
func TestP152EveryOther(t *testing.T) {
	for every := 2; every <= 5; every++ {
		for at := range every {
			var all, rest []api.Line
			for i := range 20 {
				all = append(all, line(i%every, i, i%every, i%8))
				if i%every != at {
					rest = append(rest, all[i])
				}
			}
			for _, c := range []call{dropSpace(at), dropFrame(at)} {
				w := fresh(t, 20, fills(all...)...)
				w.does(t, c, 20-len(rest), rest...)
				w.looks(t, "every other one")
			}
		}
	}
}

func TestP152Lines(t *testing.T) {
	six := sixLines()
	for many := range 7 {
		w := fresh(t, 6, fills(six[:many]...)...)
		has(t, "Lines", w.k, six[:many]...)
		has(t, "Lines, and again", w.k, six[:many]...)
	}
	// The order is that in which they were filled in, not that of any numbers.
	down := fresh(t, 256)
	var all []api.Line
	for i := range 256 {
		all = append(all, line(9-i%10, 1000-i, 500-i, 7-i%8))
		down.k.Fill(all[i])
	}
	has(t, "as many as there is room", down.k, all...)
}

// spoil writes over a list, and over its spare room.
func spoil(l []api.Line) {
	l = l[:cap(l)]
	for i := range l {
		l[i] = line(-999, -i, -999, -999)
	}
}

// TestLinesIsNewMemory: R4: what is done to a list that was told changes no TLB, no copy and no other list; nor does a list change.
func TestLinesIsNewMemory(t *testing.T) {
	for _, w := range kinds(t) {
		c := w.copied()
		kept, want := w.k.Lines(), w.p.lines()
		spoil(w.k.Lines())
		spoil(append(w.k.Lines(), line(1, 1, 1, 1)))
		spoil(c.k.Lines())
		w.looks(t, "a TLB whose list was changed outside")
		c.looks(t, "a copy whose list was changed outside")
		w.follows(t, fill(30, 30, 30, 3), fill(0, 1, 31, 3), drop(1, 1), fill(31, 0, 6, 3), dropFrame(5), fill(32, 0, 6, 3))
		spoil(append(w.k.Lines(), line(1, 1, 1, 1)))
		w.looks(t, "a TLB that went on")
		c.looks(t, "a copy that stayed")
		if !slices.Equal(kept, want) {
			t.Fatalf("a list became %+v, not %+v", kept, want)
		}
		w.follows(t, dropSpace(0), dropSpace(1), dropSpace(2), dropSpace(30), dropSpace(31), dropSpace(32))
		spoil(w.k.Lines())
		w.follows(t, fills(sixLines()...)...)
	}
}

// TestP152CopyGoesItsOwnWay: R7: each change at the one leaves the other as it was; then both change.
func TestP152CopyGoesItsOwnWay(t *testing.T) {
	changes := []call{fill(0, 1, 40, 4), fill(0, 2, 41, 4), fill(40, 0, 5, 4), fill(41, 0, 6, 4), drop(0, 1), drop(0, 0), drop(1, 1), drop(40, 40),
		dropSpace(0), dropSpace(1), dropSpace(40), dropFrame(5), dropFrame(6), dropFrame(40)}
	for _, origin := range kinds(t) {
		for _, a := range changes {
			for _, b := range changes {
				w := origin.copied()
				c := w.copied()
				looks(t, "a copy", c.k, c.p)
				w.follows(t, a)
				looks(t, "a copy whose original was changed", c.k, c.p)
				c.follows(t, b)
				looks(t, "an original whose copy was changed", w.k, w.p)
				w.follows(t, fill(50, 0, 1, 1), fill(50, 1, 1, 1), fill(50, 2, 1, 1))
				c.follows(t, fill(60, 0, 2, 2), fill(60, 1, 2, 2), drop(60, 0), fill(60, 2, 2, 2))
				looks(t, "an original whose copy went on", w.k, w.p)
			}
		}
		origin.looks(t, "what was copied")
	}
}

// TestP152CopyHasItsRoom: a copy has the room of its original, whatever there is in it, and so has a copy of it.
func TestP152CopyHasItsRoom(t *testing.T) {
	for room := 1; room <= 256; room++ {
		for _, many := range []int{0, 1, room - 1, room} {
			k, _ := tlb.New(room)
			for i := range many {
				k.Fill(line(1, i, i, 1))
			}
			c := k.Copy().Copy()
			for i := range 2 * room {
				c.Fill(line(2, i, i, 2))
				if n := len(c.Lines()); n != min(room, many+i+1) {
					t.Fatalf("room for %d: a copy of one with %d has %d lines behind %d more", room, many, n, i+1)
				}
			}
			if n := len(k.Lines()); n != many {
				t.Fatalf("room for %d: an original with %d lines has %d", room, many, n)
			}
		}
	}
}

// TestAskingChangesNothing: what asks may be asked at any time, as often as one will.
func TestAskingChangesNothing(t *testing.T) {
	for _, w := range kinds(t) {
		for range 3 {
			for _, n := range numbers {
				w.k.Look(0, n)
				w.k.Look(n, 0)
				w.k.Look(n, n)
			}
			w.k.Lines()
			w.k.Copy()
			w.looks(t, "what was asked")
		}
	}
}

// TestRefusedChangesNothing: where there is no such line nothing goes, in each kind of state.
func TestRefusedChangesNothing(t *testing.T) {
	for _, w := range kinds(t) {
		for _, n := range []int{-1, 3, 77, 1 << 32, math.MinInt, math.MaxInt} {
			w.leaves(t, drop(n, 0), drop(0, n), drop(n, n), dropSpace(n), dropFrame(n))
		}
		w.looks(t, "what was refused")
	}
}

// TestAllOfFew: every call at every state of room for one to three, two spaces, two pages and two frames.
func TestAllOfFew(t *testing.T) {
	var calls []call
	for a := range 2 {
		calls = append(calls, dropSpace(a), dropFrame(a))
		for b := range 2 {
			calls = append(calls, drop(a, b), fill(a, b, 0, 1), fill(a, b, 1, 1))
		}
	}
	// Each line is of one of four pages, another one each, with one of two frames.
	for room, want := range []int{0, 1 + 8, 1 + 8 + 8*6, 1 + 8 + 8*6 + 8*6*4} {
		if room == 0 {
			continue
		}
		w := fresh(t, room)
		seen := map[string]int{w.p.text(): 1}
		for work := []*pair{w}; len(work) > 0; work = work[1:] {
			for _, c := range calls {
				next := work[0].copied()
				next.follows(t, c)
				to := next.p.text()
				if seen[to]++; seen[to] == 1 {
					work = append(work, next)
				}
			}
			work[0].looks(t, "a TLB whose copies were changed")
		}
		if len(seen) != want {
			t.Errorf("with room for %d there are %d states, not %d", room, len(seen), want)
		}
	}
}

// row is a row of numbers that is the same at every run.
type row uint64

func (r *row) next(n int) int {
	*r = *r*6364136223846793005 + 1442695040888963407
	return int(*r>>33) % n
}

// number is one below n, or now and then any.
func (r *row) number(n int) int {
	if r.next(30) == 0 {
		return numbers[r.next(len(numbers))]
	}
	return r.next(n)
}

// call is one of few spaces and frames; most of them fill.
func (r *row) call(pages int) call {
	space, page, frame := r.number(3), r.number(pages), r.number(6)
	switch r.next(40) {
	case 0:
		return dropSpace(space)
	case 1:
		return dropFrame(frame)
	case 2, 3, 4, 5, 6, 7, 8, 9:
		return drop(space, page)
	}
	return fill(space, page, frame, r.number(8))
}

// TestManyCalls: whatever calls were done, a TLB is as told, and copies of earlier stay.
func TestManyCalls(t *testing.T) {
	at := row(15)
	for _, room := range []int{1, 2, 3, 7, 20, 256} {
		w := fresh(t, room)
		var earlier []*pair
		for step := range 2000 {
			w.follows(t, at.call(room+1))
			if step%100 == 50 {
				earlier = append(earlier, w.copied())
			}
			if step%150 == 75 {
				// The copy goes on in its original's place: nothing may tell them apart.
				w = w.copied()
			}
		}
		for _, c := range earlier {
			c.looks(t, "a copy of earlier")
		}
	}
}

// meant tells whether a line is one that a call takes away.
func (c call) meant(l api.Line) bool {
	switch c.kind {
	case "Space":
		return l.Space == c.l.Space
	case "Frame":
		return l.P.Frame == c.l.P.Frame
	}
	return l.Space == c.l.Space && l.Page == c.l.Page
}

// TestP153 asks of a TLB alone: never more lines than there is room, of each page of a space the last one that was filled in alone, until it is dropped, or there was no room.
func TestP153(t *testing.T) {
	at := row(153)
	for _, room := range []int{1, 2, 5, 16, 100, 256} {
		k, _ := tlb.New(room)
		last := map[key]api.Page{} // what was filled in last of each page, ever
		full, again, dropped := 0, 0, 0
		for step := range 4000 {
			c := at.call(room + 1)
			was := k.Lines()
			gone := c.of(k)
			now := k.Lines()
			if c.kind == "Fill" {
				last[key{c.l.Space, c.l.Page}] = c.l.P
			}
			seen := map[key]int{}
			for _, l := range now {
				if seen[key{l.Space, l.Page}]++; seen[key{l.Space, l.Page}] > 1 || last[key{l.Space, l.Page}] != l.P {
					t.Fatalf("room %d, step %d: behind %+v there is %+v, once more or not the last one", room, step, c, l)
				}
				sees(t, fmt.Sprintf("room %d, step %d", room, step), k, l.Space, l.Page, l.P, true)
			}
			if len(now) > room {
				t.Fatalf("room %d, step %d: behind %+v there are %d lines", room, step, c, len(now))
			}
			stay := slices.DeleteFunc(slices.Clone(was), c.meant)
			switch found := len(was) - len(stay); {
			case c.kind != "Fill" && (gone != found || !slices.Equal(now, stay)):
				t.Fatalf("room %d, step %d: %+v answers %d of %+v, and leaves %+v", room, step, c, gone, was, now)
			case c.kind != "Fill":
				dropped += gone
			default:
				if found > 0 {
					again++
				} else if len(was) == room {
					stay = stay[1:]
					full++
				}
				if !slices.Equal(now, append(stay, c.l)) {
					t.Fatalf("room %d, step %d: behind %+v there are %+v, of %+v", room, step, c, now, was)
				}
			}
		}
		if again < 100 || dropped < 100 || full < 100 && room < 16 {
			t.Errorf("room %d: only %d were filled in again, %d when it was full, %d dropped", room, again, full, dropped)
		}
	}
}

// TestP153LongRow: however many come, and however often, the last ones are there, and nothing of earlier ones.
func TestP153LongRow(t *testing.T) {
	for _, room := range []int{1, 3, 256} {
		k, _ := tlb.New(room)
		for i := range 3000 {
			k.Fill(line(i%2, i, i, i%8))
			if i >= room {
				blind(t, "a long row", k, (i-room)%2, i-room)
			}
			oldest := max(0, i+1-room)
			sees(t, "a long row", k, oldest%2, oldest, api.Page{Frame: oldest, Rights: oldest % 8}, true)
			sees(t, "a long row", k, i%2, i, api.Page{Frame: i, Rights: i % 8}, true)
		}
		if n := len(k.Lines()); n != room {
			t.Errorf("room for %d: there are %d", room, n)
		}
	}
}

// TestOneAnswer: R5: the same calls are answered the same at every run of them.
func TestOneAnswer(t *testing.T) {
	var first string
	for run := range 5 {
		at := row(77)
		k, _ := tlb.New(9)
		got := ""
		for range 1000 {
			got += fmt.Sprintln(at.call(6).of(k), k.Lines())
		}
		if run == 0 {
			first = got
		}
		if got != first {
			t.Fatal("another run answered otherwise")
		}
	}
}

package ready_test

import (
	"fmt"
	"math"
	"slices"
	"strings"
	"testing"

	"buttress/api"
	"buttress/ready"
)

// edges are the priorities at the ends of all, and of each word of the bits, with those beside them.
var edges = []int{0, 1, 62, 63, 64, 65, 126, 127, 128, 129, 190, 191, 192, 193, 254, 255}

// noPrios are no priorities; many have lowest bits that would be right ones.
var noPrios = []int{
	-1, -2, -63, -64, -128, -255, -256, -257, -1 << 31, 5 - 1<<32, -1 << 32, math.MinInt, math.MinInt + 1, math.MinInt + 5,
	256, 257, 261, 319, 320, 511, 512, 1 << 16, 1<<16 + 5, 1 << 31, 1 << 32, 1<<32 + 5, 1 << 62, 1<<62 + 255, math.MaxInt - 1, math.MaxInt,
}

// numbers may all be in lines; many have the lowest bits of another one.
var numbers = []int{
	0, 1, 2, 3, 4, 5, 6, 7, 8, 9, 63, 64, 255, 256, 257, 1 << 31, 1 << 32, 1<<32 + 7, 1 << 62, math.MaxInt - 1, math.MaxInt,
	-1, -2, -7, -8, -64, -255, -256, -1 << 31, -1 << 32, 7 - 1<<32, math.MinInt, math.MinInt + 1, math.MinInt + 7,
}

// entry is a number, and its priority.
type entry struct{ prio, n int }

// plain is a queue once more: all numbers in one list, in the order in which they came to stand where they are.
type plain []entry

func (p plain) at(n int) int {
	return slices.IndexFunc(p, func(x entry) bool { return x.n == n })
}

func (p plain) line(prio int) []int {
	var l []int
	for _, x := range p {
		if x.prio == prio {
			l = append(l, x.n)
		}
	}
	return l
}

// next is where the next one is in the list; -1, if there is none.
func (p plain) next() int {
	best := -1
	for i, x := range p {
		if best < 0 || x.prio > p[best].prio {
			best = i
		}
	}
	return best
}

func (p plain) bits() api.Bits {
	var b api.Bits
	for _, x := range p {
		b[x.prio/64] |= 1 << (x.prio % 64)
	}
	return b
}

// call is one that changes a queue, if it goes well.
type call struct {
	kind    string
	prio, n int
}

func put(prio, n int) call { return call{"Put", prio, n} }
func take(n int) call      { return call{"Take", 0, n} }

var turn = call{kind: "Turn"}

// of does a call at a queue: its error, and what Turn answers.
func (c call) of(q *ready.Queue) (api.Errno, bool) {
	switch c.kind {
	case "Put":
		return q.Put(c.prio, c.n), false
	case "Take":
		return q.Take(c.n), false
	}
	return api.OK, q.Turn()
}

// ofPlain is P9.1 and P9.2 once more: it answers as of does, and what the queue is then.
func (c call) ofPlain(p plain) (plain, api.Errno, bool) {
	i := p.at(c.n)
	switch {
	case c.kind == "Put" && (c.prio < 0 || c.prio > 255):
		return p, api.ErrArg, false
	case c.kind == "Put" && i >= 0:
		return p, api.ErrReadyThere, false
	case c.kind == "Put":
		return append(slices.Clone(p), entry{c.prio, c.n}), api.OK, false
	case c.kind == "Take" && i < 0:
		return p, api.ErrReadyNone, false
	case c.kind == "Turn":
		if i = p.next(); i < 0 {
			return p, api.OK, false
		}
	}
	rest := slices.Concat(p[:i], p[i+1:])
	if c.kind == "Turn" {
		return append(rest, p[i]), api.OK, true
	}
	return rest, api.OK, false
}

// looks holds all that a queue tells to what it should be: lines of all priorities and of none, bits, who is next, where each number is.
func looks(t *testing.T, what string, q *ready.Queue, want plain) {
	t.Helper()
	for prio := range 256 {
		if l := q.Line(prio); !slices.Equal(l, want.line(prio)) {
			t.Fatalf("%s: Line(%d) = %v, not %v", what, prio, l, want.line(prio))
		}
	}
	for _, prio := range noPrios {
		if l := q.Line(prio); len(l) != 0 {
			t.Fatalf("%s: Line(%d) = %v", what, prio, l)
		}
	}
	if b := q.Bits(); b != want.bits() {
		t.Fatalf("%s: Bits() = %x, not %x", what, b, want.bits())
	}
	if i := want.next(); i >= 0 {
		isNext(t, what, q, want[i].n, true)
	} else {
		isNext(t, what, q, 0, false)
	}
	for _, x := range want {
		isAt(t, what, q, x.n, x.prio, true)
	}
	for _, n := range numbers {
		if want.at(n) < 0 {
			isAt(t, what, q, n, 0, false)
		}
	}
}

func isNext(t *testing.T, what string, q *ready.Queue, want int, wantIs bool) {
	t.Helper()
	if n, is := q.Next(); n != want || is != wantIs {
		t.Fatalf("%s: Next() = %d, %v, not %d, %v", what, n, is, want, wantIs)
	}
}

func isAt(t *testing.T, what string, q *ready.Queue, n, want int, wantIs bool) {
	t.Helper()
	if prio, is := q.Where(n); prio != want || is != wantIs {
		t.Fatalf("%s: Where(%d) = %d, %v, not %d, %v", what, n, prio, is, want, wantIs)
	}
}

func does(t *testing.T, q *ready.Queue, c call, want api.Errno) {
	t.Helper()
	if e, _ := c.of(q); e != want {
		t.Fatalf("%v answers %d, not %d", c, e, want)
	}
}

func turns(t *testing.T, q *ready.Queue, want bool) {
	t.Helper()
	if is := q.Turn(); is != want {
		t.Fatalf("Turn() = %v, not %v", is, want)
	}
}

// filled is a queue that has these, put in one behind another.
func filled(t *testing.T, p ...entry) *ready.Queue {
	t.Helper()
	q := ready.New()
	for _, x := range p {
		does(t, q, put(x.prio, x.n), api.OK)
	}
	looks(t, "a queue that was filled", q, p)
	return q
}

// big has lines of one, two and three, at ends of words of the bits, and numbers of all sizes.
var big = plain{{63, 7}, {64, 8}, {255, math.MinInt}, {64, -1}, {0, 0}, {63, math.MaxInt}, {64, 1 << 32}, {192, 255}}

// follows does calls at both, a queue and the plain one, and holds them to each other behind each.
func follows(t *testing.T, q *ready.Queue, p plain, calls ...call) plain {
	t.Helper()
	for _, c := range calls {
		next, e, is := c.ofPlain(p)
		if gotE, gotIs := c.of(q); gotE != e || gotIs != is {
			t.Fatalf("%v of %v answers %d, %v, not %d, %v", c, p, gotE, gotIs, e, is)
		}
		looks(t, fmt.Sprintf("%v of %v", c, p), q, next)
		p = next
	}
	return p
}

func TestNew(t *testing.T) {
	q := ready.New()
	looks(t, "New", q, nil)
	turns(t, q, false)
	for _, n := range numbers {
		does(t, q, take(n), api.ErrReadyNone)
	}
	looks(t, "New behind calls that change nothing", q, nil)
	does(t, q, put(3, 7), api.OK)
	looks(t, "another New", ready.New(), nil)
}

func TestExample(t *testing.T) {
	q := ready.New()
	for _, c := range []call{put(3, 7), put(5, 8), put(5, 9)} {
		does(t, q, c, api.OK)
	}
	isNext(t, "the example", q, 8, true)
	turns(t, q, true)
	isNext(t, "the example behind Turn", q, 9, true)
	does(t, q, take(9), api.OK)
	does(t, q, take(8), api.OK)
	isNext(t, "the example behind Take", q, 7, true)
}

func TestP91Put(t *testing.T) {
	q := ready.New()
	for _, x := range []struct {
		prio, n int
		line    []int
	}{
		{5, 8, []int{8}}, {5, 9, []int{8, 9}}, {3, 7, []int{7}}, {5, 1, []int{8, 9, 1}}, {3, 0, []int{7, 0}}, {255, 2, []int{2}}, {0, 3, []int{3}}, {5, -4, []int{8, 9, 1, -4}},
	} {
		does(t, q, put(x.prio, x.n), api.OK)
		if l := q.Line(x.prio); !slices.Equal(l, x.line) {
			t.Fatalf("Put(%d, %d): Line = %v, not %v", x.prio, x.n, l, x.line)
		}
		isAt(t, "Put", q, x.n, x.prio, true)
	}
	looks(t, "what was put", q, plain{{5, 8}, {5, 9}, {3, 7}, {5, 1}, {3, 0}, {255, 2}, {0, 3}, {5, -4}})
}

func TestP91PutAllPrios(t *testing.T) {
	for prio := range 256 {
		filled(t, entry{prio, 7})
		filled(t, entry{prio, 7}, entry{prio, -7})
	}
	q, p := ready.New(), plain{}
	for prio := range 256 {
		p = follows(t, q, p, put(prio, 1000-prio))
	}
}

// TestP91PutNoPrio: ErrArg is named first, also of a number that is in a line.
func TestP91PutNoPrio(t *testing.T) {
	for _, prio := range noPrios {
		q := ready.New()
		does(t, q, put(prio, 7), api.ErrArg)
		looks(t, "an empty queue behind ErrArg", q, nil)
		does(t, q, put(5, 7), api.OK)
		q = filled(t, big...)
		for _, n := range numbers {
			does(t, q, put(prio, n), api.ErrArg)
		}
		looks(t, "a queue behind ErrArg", q, big)
	}
}

// TestP91PutThere: a number that is in a line, first, in the middle or last, at its own priority and at any other one.
func TestP91PutThere(t *testing.T) {
	q := filled(t, big...)
	for _, x := range big {
		for prio := range 256 {
			does(t, q, put(prio, x.n), api.ErrReadyThere)
		}
		looks(t, "a queue behind ErrReadyThere", q, big)
	}
	q = filled(t, entry{5, 7})
	does(t, q, put(5, 7), api.ErrReadyThere)
	does(t, q, put(6, 7), api.ErrReadyThere)
	looks(t, "a line of one behind ErrReadyThere", q, plain{{5, 7}})
	does(t, q, take(7), api.OK)
	does(t, q, take(7), api.ErrReadyNone)
	looks(t, "what was put in twice, and taken once", q, nil)
}

// TestP91Take: the first, a middle and the last one of a line, the only one, and the others stay in their order.
func TestP91Take(t *testing.T) {
	for _, prio := range edges {
		l := plain{{prio, 4}, {prio, 2}, {prio, 9}, {prio, -3}, {prio, 5}}
		for i, x := range l {
			q := filled(t, l...)
			does(t, q, take(x.n), api.OK)
			looks(t, "a line of which one was taken", q, slices.Concat(l[:i], l[i+1:]))
		}
		q := filled(t, entry{prio, 4})
		does(t, q, take(4), api.OK)
		looks(t, "a line whose only one was taken", q, nil)
	}
	for i, x := range big {
		q := filled(t, big...)
		does(t, q, take(x.n), api.OK)
		looks(t, "a queue of which one was taken", q, slices.Concat(big[:i], big[i+1:]))
	}
}

func TestP91TakeNone(t *testing.T) {
	q := filled(t, big...)
	for _, n := range numbers {
		if big.at(n) < 0 {
			does(t, q, take(n), api.ErrReadyNone)
		}
	}
	looks(t, "a queue of which none was taken", q, big)
	does(t, q, take(8), api.OK)
	was := slices.Concat(big[:1], big[2:])
	for range 2 {
		does(t, q, take(8), api.ErrReadyNone)
		looks(t, "a queue of which one was taken before", q, was)
	}
}

// TestP91TakeAndPutAgain: it is the last one of its line then, at its priority or at another one.
func TestP91TakeAndPutAgain(t *testing.T) {
	for _, prio := range edges {
		for _, other := range edges {
			for _, n := range []int{1, 2, 3} {
				q := filled(t, entry{prio, 1}, entry{prio, 2}, entry{prio, 3})
				p := plain{{prio, 1}, {prio, 2}, {prio, 3}}
				p = follows(t, q, p, take(n), put(other, n), put(prio, n), take(n), put(prio, n))
				if l := q.Line(prio); l[2] != n || len(l) != 3 {
					t.Fatalf("%d was put in again: Line(%d) = %v", n, prio, l)
				}
			}
			follows(t, filled(t, entry{prio, 0}), plain{{prio, 0}}, take(0), put(other, 0), turn, take(0), put(prio, 0))
		}
	}
}

// TestP91AnyNumbers: a number is told from another one by all of its bits.
func TestP91AnyNumbers(t *testing.T) {
	q, p := ready.New(), plain{}
	for i, n := range numbers {
		p = follows(t, q, p, take(n), put(edges[i%3], n), put(5, n))
	}
	for _, n := range slices.Backward(numbers) {
		p = follows(t, q, p, take(n), take(n))
	}
	for _, n := range numbers {
		follows(t, q, nil, put(5, n), turn, take(n))
	}
}

func TestP92Next(t *testing.T) {
	for _, low := range edges {
		for _, high := range edges {
			if low < high {
				isNext(t, "the greater one put last", filled(t, entry{low, 1}, entry{high, 2}), 2, true)
				isNext(t, "the greater one put first", filled(t, entry{high, 2}, entry{low, 1}), 2, true)
			}
		}
		isNext(t, "two of a line", filled(t, entry{low, 9}, entry{low, 1}), 9, true)
		isNext(t, "number 0", filled(t, entry{low, 0}), 0, true)
		isNext(t, "a number below 0", filled(t, entry{low, -1}), -1, true)
	}
	// A number's size has no weight.
	isNext(t, "great numbers of low priorities", filled(t, entry{1, math.MaxInt}, entry{2, 0}, entry{3, math.MinInt}), math.MinInt, true)
}

// TestP92LineBecomesEmpty: the one below it is next, priority by priority, from the greatest one to none.
func TestP92LineBecomesEmpty(t *testing.T) {
	q, p := ready.New(), plain{}
	for prio := range 256 {
		p = append(p, entry{prio, -prio}, entry{prio, 1000 + prio})
		does(t, q, put(prio, -prio), api.OK)
		does(t, q, put(prio, 1000+prio), api.OK)
	}
	looks(t, "all lines", q, p)
	for prio := 255; prio >= 0; prio-- {
		isNext(t, "a line of two", q, -prio, true)
		p = follows(t, q, p, take(-prio))
		isNext(t, "a line of one", q, 1000+prio, true)
		p = follows(t, q, p, take(1000+prio))
	}
	isNext(t, "no line", q, 0, false)
	follows(t, q, p, turn, put(0, 3), turn, take(3), turn)
}

func TestP92Turn(t *testing.T) {
	for _, prio := range edges {
		q := filled(t, entry{prio, 1}, entry{prio, 2}, entry{prio, 3})
		for _, want := range [][]int{{2, 3, 1}, {3, 1, 2}, {1, 2, 3}, {2, 3, 1}} {
			turns(t, q, true)
			if l := q.Line(prio); !slices.Equal(l, want) {
				t.Fatalf("Line(%d) behind Turn = %v, not %v", prio, l, want)
			}
			isNext(t, "behind Turn", q, want[0], true)
		}
		q = filled(t, entry{prio, 7})
		for range 3 {
			turns(t, q, true)
			looks(t, "a line of one behind Turn", q, plain{{prio, 7}})
		}
		does(t, q, take(7), api.OK)
		turns(t, q, false)
		looks(t, "an empty queue behind Turn", q, nil)
	}
}

// TestP92TurnLeavesOthers: lines of lower priorities stay as they are; one who was put in comes behind who was turned ahead of it.
func TestP92TurnLeavesOthers(t *testing.T) {
	p := plain{{0, 5}, {63, 1}, {63, 2}, {64, 3}, {64, 4}, {0, 6}}
	q := filled(t, p...)
	follows(t, q, p, turn, put(64, 9), turn, turn, take(3), turn, take(9), turn, take(4), turn, put(63, 3), turn, turn, take(1), take(2), take(3), turn, turn)
	if l := q.Line(0); !slices.Equal(l, []int{5, 6}) {
		t.Errorf("Line(0) = %v", l)
	}
}

func TestP92Where(t *testing.T) {
	q := filled(t, big...)
	for n, prio := range map[int]int{7: 63, 8: 64, math.MinInt: 255, -1: 64, 0: 0, math.MaxInt: 63, 1 << 32: 64, 255: 192} {
		isAt(t, "a number of a line", q, n, prio, true)
	}
	for _, n := range []int{1, -7, 63, 64, 192, 256, 1<<32 + 7, math.MinInt + 1, math.MaxInt - 1} {
		isAt(t, "a number of no line", q, n, 0, false)
	}
	does(t, q, take(255), api.OK)
	isAt(t, "a number that was taken", q, 255, 0, false)
	isAt(t, "a number at priority 0", filled(t, entry{0, 9}), 9, 0, true)
}

func TestP92Line(t *testing.T) {
	q := filled(t, big...)
	for prio, want := range map[int][]int{0: {0}, 63: {7, math.MaxInt}, 64: {8, -1, 1 << 32}, 192: {255}, 255: {math.MinInt}, 1: nil, 62: nil, 65: nil, 254: nil, -1: nil, 256: nil, -256: nil, 319: nil, 511: nil, math.MinInt: nil, math.MaxInt: nil} {
		if l := q.Line(prio); !slices.Equal(l, want) {
			t.Errorf("Line(%d) = %v, not %v", prio, l, want)
		}
	}
}

func TestP92Bits(t *testing.T) {
	for prio, want := range map[int]api.Bits{
		0: {1}, 1: {2}, 63: {1 << 63}, 64: {0, 1}, 127: {0, 1 << 63}, 128: {0, 0, 1}, 191: {0, 0, 1 << 63}, 192: {0, 0, 0, 1}, 255: {0, 0, 0, 1 << 63},
	} {
		q := filled(t, entry{prio, 7}, entry{prio, 8})
		if b := q.Bits(); b != want {
			t.Errorf("Bits of priority %d = %x", prio, b)
		}
		does(t, q, take(7), api.OK)
		if b := q.Bits(); b != want {
			t.Errorf("Bits of priority %d, one taken = %x", prio, b)
		}
		does(t, q, take(8), api.OK)
		if b := q.Bits(); b != (api.Bits{}) {
			t.Errorf("Bits of priority %d, both taken = %x", prio, b)
		}
	}
	if b := filled(t, big...).Bits(); b != (api.Bits{1 | 1<<63, 1, 0, 1 | 1<<63}) {
		t.Errorf("Bits of big = %x", b)
	}
}

// TestP92AskingChangesNothing: a queue that was asked for all it tells, many times, goes on as one that was not asked.
func TestP92AskingChangesNothing(t *testing.T) {
	calls := []call{turn, take(8), turn, put(255, 9), turn, put(64, 8), take(-1), turn}
	quiet, asked, p := filled(t, big...), filled(t, big...), big
	for _, c := range calls {
		for range 3 {
			looks(t, "a queue that is asked", asked, p)
			asked.Copy()
		}
		p = follows(t, asked, p, c)
		c.of(quiet)
	}
	looks(t, "a queue that was not asked", quiet, p)
}

// overwrite puts other numbers into a list, and into the room behind it.
func overwrite(l []int) {
	l = l[:cap(l)]
	for i := range l {
		l[i] = -999 - i
	}
}

// TestLineIsNewMemory: what is done to a list that was told changes no queue, no copy and no other list.
func TestLineIsNewMemory(t *testing.T) {
	p := slices.Clone(big)
	for i := range 9 {
		p = append(p, entry{100, 2000 + i})
		q := filled(t, p...)
		c := q.Copy()
		for _, prio := range []int{0, 1, 63, 64, 100, 255} {
			kept, again := q.Line(prio), q.Line(prio)
			overwrite(again)
			overwrite(c.Line(prio))
			if !slices.Equal(kept, p.line(prio)) {
				t.Fatalf("Line(%d) became %v as another one was changed", prio, kept)
			}
		}
		looks(t, "a queue whose lines were changed outside", q, p)
		looks(t, "a copy whose lines were changed outside", c, p)
		more := follows(t, q, p, put(64, 3000), put(100, 3001), turn)
		for prio := range 256 {
			overwrite(q.Line(prio))
		}
		looks(t, "a queue that went on", q, more)
	}
}

// TestLineOfEmptied: a line that was emptied keeps no room that a list of it would share.
func TestLineOfEmptied(t *testing.T) {
	q := filled(t, entry{5, 1}, entry{5, 2}, entry{5, 3})
	for _, n := range []int{1, 2, 3} {
		does(t, q, take(n), api.OK)
	}
	l := append(q.Line(5), 77, 78, 79)
	does(t, q, put(5, 4), api.OK)
	overwrite(l)
	overwrite(q.Line(5))
	looks(t, "a line that was emptied and filled again", q, plain{{5, 4}})
}

// TestLineStays: a list that was told stays as it is, whatever the queue does.
func TestLineStays(t *testing.T) {
	for _, c := range changes {
		q := filled(t, big...)
		var told [256][]int
		for prio := range told {
			told[prio] = q.Line(prio)
		}
		does(t, q, c, api.OK)
		for _, n := range numbers {
			q.Take(n)
			q.Put(64, n)
			q.Turn()
		}
		for prio := range told {
			if !slices.Equal(told[prio], big.line(prio)) {
				t.Fatalf("%v: the list of %d became %v", c, prio, told[prio])
			}
		}
	}
}

// changes are calls that change the queue big, by each of its kinds.
var changes = []call{put(64, 9), put(255, 9), put(100, 9), put(0, -8), take(8), take(-1), take(1 << 32), take(0), take(math.MinInt), take(255), turn}

func TestCopyTellsTheSame(t *testing.T) {
	looks(t, "a copy of an empty queue", ready.New().Copy(), nil)
	q, p := filled(t, big...), big
	for _, c := range changes {
		p = follows(t, q, p, c)
		looks(t, "a copy", q.Copy(), p)
		looks(t, "a copy's copy", q.Copy().Copy(), p)
	}
}

// TestCopyGoesItsOwnWay: each change at the one leaves the other as it was; then both change.
func TestCopyGoesItsOwnWay(t *testing.T) {
	for _, a := range changes {
		for _, b := range changes {
			q := filled(t, big...)
			c := q.Copy()
			ofQ := follows(t, q, big, a)
			looks(t, "a copy whose original was changed", c, big)
			ofC := follows(t, c, big, b)
			looks(t, "an original whose copy was changed", q, ofQ)
			ofQ = follows(t, q, ofQ, turn, put(64, 600), put(64, 601), take(7), put(255, 7))
			looks(t, "a copy whose original went on", c, ofC)
			ofC = follows(t, c, ofC, put(64, 700), put(255, 701), turn, turn, take(7), put(64, 7))
			looks(t, "an original whose copy went on", q, ofQ)
		}
	}
}

// TestCopyOfEmpty: neither the copy of an empty queue nor its original hears of the other one.
func TestCopyOfEmpty(t *testing.T) {
	q := ready.New()
	c := q.Copy()
	p := follows(t, q, nil, put(5, 7))
	looks(t, "a copy of an empty queue", c, nil)
	follows(t, c, nil, put(6, 7), put(6, 8))
	looks(t, "its original", q, p)
}

// TestCopyHasOneOrder: a copy is the same each time, however a map is gone through.
func TestCopyHasOneOrder(t *testing.T) {
	var p plain
	for i := range 40 {
		p = append(p, entry{edges[i%3], (i * 17) % 40})
	}
	q := filled(t, p...)
	for range 50 {
		c := q.Copy()
		looks(t, "one of many copies", c, p)
		follows(t, c, p, take(17), turn, put(255, 17))
	}
	looks(t, "what was copied", q, p)
}

func (p plain) text() string {
	var parts []string
	for prio := range 256 {
		if l := p.line(prio); len(l) > 0 {
			parts = append(parts, fmt.Sprint(prio, l))
		}
	}
	return strings.Join(parts, " ")
}

// TestP93AllSmallQueues does every call, wrong ones too, at every queue of at most three numbers in three lines, each at a copy of its own.
func TestP93AllSmallQueues(t *testing.T) {
	type pair struct {
		q *ready.Queue
		p plain
	}
	calls := []call{turn}
	for _, n := range []int{0, -1, 7} {
		calls = append(calls, take(n))
		for _, prio := range []int{-1, 0, 64, 255, 256} {
			calls = append(calls, put(prio, n))
		}
	}
	seen := map[string]int{"": 1}
	for work := []pair{{ready.New(), nil}}; len(work) > 0; work = work[1:] {
		for _, c := range calls {
			next := pair{work[0].q.Copy(), work[0].p}
			next.p = follows(t, next.q, next.p, c)
			to := next.p.text()
			if seen[to]++; seen[to] == 1 {
				work = append(work, next)
			}
		}
		looks(t, "a queue whose copies were changed", work[0].q, work[0].p)
	}
	// k of three numbers can be chosen and ordered in 1, 3, 6, 6 ways; a row of k is cut into three lines in 1, 3, 6, 10.
	if want := 1 + 3*3 + 6*6 + 6*10; len(seen) != want {
		t.Errorf("there are %d queues, not %d", len(seen), want)
	}
}

// pick is a row of numbers that is the same at every run.
type pick uint64

func (p *pick) next(n int) int {
	*p = *p*6364136223846793005 + 1442695040888963407
	return int(*p>>33) % n
}

func (p *pick) call() call {
	n := numbers[p.next(len(numbers))]
	switch p.next(8) {
	case 0, 1:
		return turn
	case 2, 3:
		return take(n)
	case 4:
		return put(noPrios[p.next(len(noPrios))], n)
	case 5:
		return put(p.next(256), n)
	}
	return put(edges[p.next(len(edges))], n)
}

// TestP93ManyCalls: whatever calls were done, wrong ones among them, a queue is as told, and copies of earlier stay.
func TestP93ManyCalls(t *testing.T) {
	at := pick(9)
	for range 10 {
		q, p := ready.New(), plain{}
		var copies []*ready.Queue
		var were []plain
		for step := range 400 {
			p = follows(t, q, p, at.call())
			if step%80 == 0 {
				copies, were = append(copies, q.Copy()), append(were, p)
			}
			if step%150 == 75 {
				// The copy goes on in its original's place: nothing may tell them apart.
				q = q.Copy()
			}
		}
		for i, c := range copies {
			looks(t, "a copy of earlier", c, were[i])
		}
	}
}

// TestP93Once: whatever calls were done, a number is in one line, once, and Next has the greatest priority of all.
func TestP93Once(t *testing.T) {
	at := pick(5)
	q := ready.New()
	for range 2000 {
		c := at.call()
		c.of(q)
		where := map[int]int{}
		greatest := -1
		for prio := range 256 {
			for _, n := range q.Line(prio) {
				if _, twice := where[n]; twice {
					t.Fatalf("%v: %d is in a line twice", c, n)
				}
				where[n] = prio
				greatest = prio
			}
		}
		for _, n := range numbers {
			prio, is := where[n]
			isAt(t, "a number", q, n, prio, is)
		}
		n, is := q.Next()
		if prio, there := where[n]; is != (greatest >= 0) || is && (!there || prio != greatest) {
			t.Fatalf("%v: Next() = %d, %v of lines up to %d", c, n, is, greatest)
		}
	}
}

// TestP93ComesBehindThoseAhead: as each Next is taken, numbers come by their priorities, and within one in the order in which they were put in.
func TestP93ComesBehindThoseAhead(t *testing.T) {
	at := pick(3)
	q := ready.New()
	var want plain
	for i := range 300 {
		x := entry{edges[at.next(len(edges))], i * (1 - 2*(i%2))}
		want = append(want, x)
		does(t, q, put(x.prio, x.n), api.OK)
	}
	slices.SortStableFunc(want, func(a, b entry) int { return b.prio - a.prio })
	for _, x := range want {
		isNext(t, "who comes", q, x.n, true)
		does(t, q, take(x.n), api.OK)
	}
	isNext(t, "behind all", q, 0, false)
}

// TestP93Turns: each of a line is Next once in as many turns as it is long, also a line of many.
func TestP93Turns(t *testing.T) {
	for _, many := range []int{1, 2, 3, 7, 64, 1000} {
		q := ready.New()
		does(t, q, put(4, -1), api.OK)
		for n := range many {
			does(t, q, put(5, n), api.OK)
		}
		for range 2 {
			for n := range many {
				isNext(t, "a line in turns", q, n, true)
				turns(t, q, true)
			}
		}
		for n := range many {
			does(t, q, take(n), api.OK)
		}
		looks(t, "a line in turns that was taken", q, plain{{4, -1}})
	}
}

package mailbox_test

import (
	"fmt"
	"math"
	"slices"
	"testing"

	"buttress/api"
	"buttress/mailbox"
)

// strangers are no cores of any boxes; many have the lowest bits of one that is.
var strangers = []int{
	-1, -2, -7, -8, -9, -64, -256, -1 << 31, -1 << 32, 1 - 1<<32, math.MinInt, math.MinInt + 1, math.MinInt + 7,
	8, 9, 15, 16, 63, 64, 65, 255, 256, 257, 1 << 31, 1 << 32, 1<<32 + 1, 1<<32 + 7, 1 << 62, math.MaxInt - 1, math.MaxInt,
}

// numbers may all be a kind, and what a message is about.
var numbers = append([]int{0, 1, 2, 3, 4, 5, 6, 7, 4095, 4096, 4097}, strangers...)

// holds holds a core's box to what it should be.
func holds(t *testing.T, what string, b *mailbox.Boxes, core int, want ...api.Mail) {
	t.Helper()
	if box := b.Box(core); !slices.Equal(box, want) {
		t.Fatalf("%s: Box(%d) = %v, not %v", what, core, box, want)
	}
}

// owes holds what each core is owed, from the first one on, to what it should be.
func owes(t *testing.T, what string, b *mailbox.Boxes, want ...int) {
	t.Helper()
	for core, n := range want {
		if owed := b.Owed(core); owed != n {
			t.Fatalf("%s: Owed(%d) = %d, not %d", what, core, owed, n)
		}
	}
}

// looks holds all that boxes tell to what they should be, of cores that are, and of those right beside them.
func looks(t *testing.T, what string, b *mailbox.Boxes, want *plain) {
	t.Helper()
	for core := -1; core <= want.cores; core++ {
		holds(t, what, b, core, want.box(core)...)
		if n := b.Owed(core); n != want.owed(core) {
			t.Fatalf("%s: Owed(%d) = %d, not %d, of %s", what, core, n, want.owed(core), want.text())
		}
	}
}

// pair are boxes, and what they should be.
type pair struct {
	b *mailbox.Boxes
	p *plain
}

func (w *pair) copied() *pair {
	return &pair{w.b.Copy(), w.p.copied()}
}

// looks holds all that they tell to what it should be, and a copy to go on as it should: all messages are taken, and each core sends to all.
func (w *pair) looks(t *testing.T, what string) {
	t.Helper()
	looks(t, what, w.b, w.p)
	c := w.copied()
	for core := range w.p.cores {
		for range len(w.p.box(core)) + 1 {
			c.answers(t, take(core), take(core).ofPlain(c.p))
		}
		c.follows(t, all(core, core, 5))
	}
	looks(t, what+", and a copy went on", w.b, w.p)
}

// answers holds a call to what is told here.
func (w *pair) answers(t *testing.T, c call, want answer) {
	t.Helper()
	if got := c.of(w.b); got != want {
		t.Fatalf("%+v answers %+v, not %+v; now there is %s", c, got, want, w.p.text())
	}
}

// follows does calls at both, and holds them to each other behind each.
func (w *pair) follows(t *testing.T, calls ...call) {
	t.Helper()
	for _, c := range calls {
		w.answers(t, c, c.ofPlain(w.p))
		looks(t, fmt.Sprintf("%+v", c), w.b, w.p)
	}
}

// does holds calls to be done.
func (w *pair) does(t *testing.T, calls ...call) {
	t.Helper()
	for _, c := range calls {
		w.copied().answers(t, c, answer{})
		w.follows(t, c)
	}
}

// takes holds the first message of a core's box to be this one.
func (w *pair) takes(t *testing.T, core int, want api.Mail) {
	t.Helper()
	w.copied().answers(t, take(core), answer{m: want, is: true})
	w.follows(t, take(core))
}

// refuses holds calls to answer an error, and to change nothing (R2).
func (w *pair) refuses(t *testing.T, e api.Errno, calls ...call) {
	t.Helper()
	for _, c := range calls {
		w.answers(t, c, answer{e: e})
		looks(t, fmt.Sprintf("%+v that changes nothing", c), w.b, w.p)
	}
}

// none holds cores to have no message that could be taken (R3), and nothing to change.
func (w *pair) none(t *testing.T, cores ...int) {
	t.Helper()
	for _, core := range cores {
		w.answers(t, take(core), answer{})
		looks(t, "Take of none", w.b, w.p)
	}
}

// fresh are boxes behind some calls.
func fresh(t *testing.T, cores int, calls ...call) *pair {
	t.Helper()
	b, e := mailbox.New(cores)
	if e != api.OK || b == nil {
		t.Fatalf("New(%d) = %v, %d", cores, b, e)
	}
	w := &pair{b, &plain{cores: cores}}
	looks(t, "New", b, w.p)
	w.follows(t, calls...)
	w.looks(t, "new boxes")
	return w
}

// kinds are boxes in each kind of state.
func kinds(t *testing.T) []*pair {
	t.Helper()
	return []*pair{
		fresh(t, 1),
		fresh(t, 1, all(0, 1, 1)),
		fresh(t, 2),
		fresh(t, 2, send(0, 1, 1, 1)),
		fresh(t, 2, sends(1, 0, 64)...),
		fresh(t, 3),
		fresh(t, 3, all(0, 1, 5)),
		fresh(t, 3, send(2, 1, 4, 4), send(0, 1, 4, 4), send(2, 1, 4, 4), send(2, 0, 4, 4)),
		fresh(t, 3, sends(0, 1, 63)...),
		fresh(t, 3, sends(0, 1, 64)...),
		fresh(t, 3, slices.Concat(sends(2, 1, 64), sends(1, 0, 64), sends(0, 2, 64))...),
		// These had more, so that there may be room behind the messages, and ahead of them.
		fresh(t, 3, append(sends(2, 1, 64), take(1), take(1), take(1))...),
		fresh(t, 3, all(0, 1, 1), all(1, 2, 2), all(2, 3, 3), take(0), take(1), take(2)),
		fresh(t, 3, all(0, 1, 1), take(1), take(2)),
		fresh(t, 8, all(0, 1, 1), all(7, 2, 2), send(3, 4, 5, 6), send(7, 0, 1, 2), take(4)),
	}
}

func TestExample(t *testing.T) {
	w := fresh(t, 3)
	w.does(t, all(0, 1, 5))
	owes(t, "the example", w.b, 2, 0, 0)
	w.takes(t, 1, mail(0, 1, 5))
	owes(t, "the example", w.b, 1, 0, 0)
	holds(t, "the example", w.b, 2, mail(0, 1, 5))
}

// TestP171New: all boxes are empty at first; each core that there is has one, and no other one.
func TestP171New(t *testing.T) {
	for cores := 1; cores <= 8; cores++ {
		w := fresh(t, cores)
		for c := range cores {
			holds(t, "New", w.b, c)
			owes(t, "New", w.b, make([]int, cores)...)
			w.none(t, c)
		}
		for from := range cores {
			for to := range cores {
				if from != to {
					w.does(t, send(from, to, from, to))
				}
			}
		}
		for c := cores; c <= 9; c++ {
			w.refuses(t, api.ErrArg, send(0, c, 1, 1), send(c, 0, 1, 1), all(c, 1, 1))
			w.none(t, c)
		}
	}
}

// TestP171NewWrong: R3: beside the error there are no boxes.
func TestP171NewWrong(t *testing.T) {
	for _, cores := range append([]int{0}, strangers...) {
		if cores == 8 {
			continue
		}
		if b, e := mailbox.New(cores); b != nil || e != api.ErrArg {
			t.Errorf("New(%d) = %v, %d, not nil, %d", cores, b, e, api.ErrArg)
		}
	}
}

// TestNewAlone: new boxes know nothing of others.
func TestNewAlone(t *testing.T) {
	a := fresh(t, 3, all(0, 1, 5), send(2, 1, 6, 6))
	b := fresh(t, 3)
	b.none(t, 0, 1, 2)
	b.follows(t, all(1, 7, 7), take(0), send(0, 1, 8, 8))
	a.looks(t, "boxes beside others")
	b.looks(t, "others")
}

// TestNoSuchCore: ErrArg of Send and All, in each kind of state, and nothing changes (R2); nothing is told of such a core (R3).
func TestNoSuchCore(t *testing.T) {
	for _, w := range kinds(t) {
		last := w.p.cores - 1
		for _, c := range append([]int{w.p.cores, w.p.cores + 1}, strangers...) {
			w.refuses(t, api.ErrArg, send(c, 0, 1, 1), send(0, c, 1, 1), send(c, last, 1, 1), send(last, c, 1, 1), send(c, -1, 1, 1), all(c, 1, 1))
			w.none(t, c)
			if n, box := w.b.Owed(c), w.b.Box(c); n != 0 || len(box) != 0 {
				t.Fatalf("Owed(%d) = %d, Box = %v, of %s", c, n, box, w.p.text())
			}
		}
		w.looks(t, "boxes at which others were refused")
	}
}

// TestNoSuchCoreAsAnother: two that are not there and are one are refused as such.
func TestNoSuchCoreAsAnother(t *testing.T) {
	for _, w := range kinds(t) {
		for _, c := range append([]int{w.p.cores}, strangers...) {
			w.refuses(t, api.ErrArg, send(c, c, 1, 1))
		}
	}
}

// TestFirstAndLastCore: the first and the last core are cores as all are.
func TestFirstAndLastCore(t *testing.T) {
	for cores := 2; cores <= 8; cores++ {
		last := cores - 1
		w := fresh(t, cores)
		w.does(t, send(0, last, 1, 2), send(last, 0, 3, 4), all(0, 5, 6), all(last, 7, 8))
		holds(t, "the first core", w.b, 0, mail(last, 3, 4), mail(last, 7, 8))
		holds(t, "the last core", w.b, last, mail(0, 1, 2), mail(0, 5, 6))
		if a, b := w.b.Owed(0), w.b.Owed(last); a != cores || b != cores {
			t.Fatalf("%d cores: Owed(0) = %d, Owed(%d) = %d", cores, a, last, b)
		}
		w.takes(t, 0, mail(last, 3, 4))
		w.takes(t, last, mail(0, 1, 2))
	}
}

// TestP171SendIsTheLast: a message is behind all that are there, in the box of whom it goes to and in no other.
func TestP171SendIsTheLast(t *testing.T) {
	w := fresh(t, 4)
	w.does(t, send(0, 1, 1, 10))
	holds(t, "one", w.b, 1, mail(0, 1, 10))
	w.does(t, send(3, 1, 2, 20))
	holds(t, "two", w.b, 1, mail(0, 1, 10), mail(3, 2, 20))
	w.does(t, send(0, 1, 0, 5), send(1, 0, 9, 9), send(2, 1, 1, 10))
	holds(t, "more", w.b, 1, mail(0, 1, 10), mail(3, 2, 20), mail(0, 0, 5), mail(2, 1, 10))
	holds(t, "another one", w.b, 0, mail(1, 9, 9))
	holds(t, "who sent", w.b, 2)
	holds(t, "who sent", w.b, 3)
	owes(t, "more", w.b, 2, 1, 1, 1)
}

// TestSendTwice: two messages that are alike are two.
func TestSendTwice(t *testing.T) {
	w := fresh(t, 2)
	same := mail(0, 1, 1)
	w.does(t, send(0, 1, 1, 1), send(0, 1, 1, 1), all(0, 1, 1))
	holds(t, "alike", w.b, 1, same, same, same)
	for left := 2; left >= 0; left-- {
		w.takes(t, 1, same)
		owes(t, "alike", w.b, left, 0)
	}
	w.none(t, 1)
}

// TestP171SendSelf: ErrMailboxSelf, of each core, also where its box is full: that error is named first.
func TestP171SendSelf(t *testing.T) {
	for _, w := range kinds(t) {
		for c := range w.p.cores {
			w.refuses(t, api.ErrMailboxSelf, send(c, c, 1, 1), send(c, c, 0, 0))
		}
	}
	full := fresh(t, 2, sends(1, 0, 64)...)
	full.refuses(t, api.ErrMailboxSelf, send(0, 0, 1, 1), send(1, 1, 1, 1))
	full.refuses(t, api.ErrBig, send(1, 0, 1, 1))
}

// TestErrArgFirst: ErrArg is named ahead of ErrBig: a core that is not there is told first, though the box be full.
func TestErrArgFirst(t *testing.T) {
	w := fresh(t, 3, slices.Concat(sends(0, 1, 64), sends(1, 0, 64), sends(1, 2, 64))...)
	for _, c := range append([]int{3}, strangers...) {
		w.refuses(t, api.ErrArg, send(c, 0, 1, 1), send(c, 1, 1, 1), send(c, 2, 1, 1), all(c, 1, 1))
	}
}

// TestP171SendFull: the 64th one comes in, the 65th one does not, whoever sends it, and again when one was taken.
func TestP171SendFull(t *testing.T) {
	w := fresh(t, 3, sends(0, 1, 63)...)
	w.does(t, send(2, 1, 7, 7))
	w.refuses(t, api.ErrBig, send(0, 1, 8, 8), send(2, 1, 8, 8), send(0, 1, 0, 0))
	w.does(t, send(0, 2, 1, 1), send(1, 2, 1, 1), send(1, 0, 1, 1), send(2, 0, 1, 1))
	for i := range 130 {
		first := w.b.Box(1)[0]
		w.takes(t, 1, first)
		w.does(t, send(i%2*2, 1, 9, i))
		w.refuses(t, api.ErrBig, send(0, 1, 8, 8), send(2, 1, 8, 8))
		if n := len(w.b.Box(1)); n != 64 {
			t.Fatalf("a full box has %d", n)
		}
	}
}

// TestP171EachBoxHasItsRoom: a box is full by what stands in it, not by what others have, nor by what was sent ever.
func TestP171EachBoxHasItsRoom(t *testing.T) {
	w := fresh(t, 8)
	for to := range 8 {
		for i := range 64 {
			w.does(t, send((to+1+i%7)%8, to, to, i))
		}
		for from := range 8 {
			if from != to {
				w.refuses(t, api.ErrBig, send(from, to, 1, 1))
			}
		}
	}
	owes(t, "all full", w.b, 64, 64, 64, 64, 64, 64, 64, 64)
	w.looks(t, "all full")
}

// TestP171All: each other core has it, its own box does not.
func TestP171All(t *testing.T) {
	for cores := 1; cores <= 8; cores++ {
		for from := range cores {
			w := fresh(t, cores)
			w.does(t, all(from, 3, 44))
			for c := range cores {
				if c == from {
					holds(t, "who sent", w.b, c)
				} else {
					holds(t, "another one", w.b, c, mail(from, 3, 44))
				}
			}
			if n := w.b.Owed(from); n != cores-1 {
				t.Fatalf("%d cores: behind All(%d) it is owed %d", cores, from, n)
			}
			w.does(t, all(cores-1-from, 4, 55))
			w.looks(t, "All")
		}
	}
}

// TestP171AllIsTheLast: it is behind what is there in each box.
func TestP171AllIsTheLast(t *testing.T) {
	w := fresh(t, 3, send(0, 1, 1, 1), send(1, 2, 2, 2), send(0, 2, 3, 3), send(1, 0, 4, 4))
	w.does(t, all(2, 5, 5), all(0, 6, 6))
	holds(t, "0", w.b, 0, mail(1, 4, 4), mail(2, 5, 5))
	holds(t, "1", w.b, 1, mail(0, 1, 1), mail(2, 5, 5), mail(0, 6, 6))
	holds(t, "2", w.b, 2, mail(1, 2, 2), mail(0, 3, 3), mail(0, 6, 6))
	owes(t, "All", w.b, 4, 2, 2)
}

// TestP171AllAlone: one core alone sends to nobody, as often as it will.
func TestP171AllAlone(t *testing.T) {
	w := fresh(t, 1)
	for i := range 200 {
		w.does(t, all(0, i, i))
		owes(t, "alone", w.b, 0)
		holds(t, "alone", w.b, 0)
		w.none(t, 0)
	}
}

// TestP171AllFull: with one full box among the others nothing is sent, wherever it is; the sender's own one does not count.
func TestP171AllFull(t *testing.T) {
	for cores := 2; cores <= 8; cores++ {
		for full := range cores {
			other := (full + 1) % cores
			w := fresh(t, cores, sends(other, full, 63)...)
			w.does(t, all(other, 6, 6))
			if n := len(w.b.Box(full)); n != 64 {
				t.Fatalf("a full box has %d", n)
			}
			for from := range cores {
				if from != full {
					w.refuses(t, api.ErrBig, all(from, 7, 7), all(from, 0, 0))
				}
			}
			w.does(t, all(full, 8, 8))
			w.takes(t, full, mail(other, 3, 0))
			w.does(t, all(other, 9, 9))
			w.refuses(t, api.ErrBig, all(other, 9, 9))
			w.does(t, all(full, 10, 10))
			w.looks(t, "All at a full box")
		}
	}
}

// TestP171AllFills: All sends till a box is full; then all others have as many as were sent.
func TestP171AllFills(t *testing.T) {
	w := fresh(t, 4)
	for i := range 64 {
		w.does(t, all(2, 1, i))
	}
	w.refuses(t, api.ErrBig, all(2, 1, 64), send(2, 0, 1, 1), send(1, 3, 1, 1), all(0, 1, 1))
	owes(t, "full of All", w.b, 0, 0, 192, 0)
	w.takes(t, 0, mail(2, 1, 0))
	w.takes(t, 1, mail(2, 1, 0))
	w.refuses(t, api.ErrBig, all(2, 1, 64))
	w.takes(t, 3, mail(2, 1, 0))
	w.does(t, all(2, 1, 64))
	w.looks(t, "full of All")
}

// TestAnyNumber: kind and about may be any int, and are told as they are; Take tells them apart from none by its yes.
func TestAnyNumber(t *testing.T) {
	for _, kind := range numbers {
		for _, about := range numbers {
			b, _ := mailbox.New(3)
			w := &pair{b, &plain{cores: 3}}
			w.does(t, send(0, 1, kind, about), all(0, about, kind))
			holds(t, "any number", w.b, 1, mail(0, kind, about), mail(0, about, kind))
			owes(t, "any number", w.b, 3, 0, 0)
			w.takes(t, 1, mail(0, kind, about))
			w.takes(t, 1, mail(0, about, kind))
			w.takes(t, 2, mail(0, about, kind))
			w.none(t, 0, 1, 2)
		}
	}
}

// TestP172Take: the first one goes, and the others stay in order; other boxes stay.
func TestP172Take(t *testing.T) {
	w := fresh(t, 3, send(0, 1, 1, 1), send(2, 1, 2, 2), send(0, 2, 9, 9), send(0, 1, 3, 3), send(2, 1, 4, 4))
	want := []api.Mail{mail(0, 1, 1), mail(2, 2, 2), mail(0, 3, 3), mail(2, 4, 4)}
	for i, m := range want {
		w.takes(t, 1, m)
		holds(t, "what stays", w.b, 1, want[i+1:]...)
		holds(t, "another one", w.b, 2, mail(0, 9, 9))
		w.none(t, 0)
	}
	w.none(t, 1, 1)
	w.takes(t, 2, mail(0, 9, 9))
	w.none(t, 0, 1, 2)
	owes(t, "all taken", w.b, 0, 0, 0)
}

// TestP172TakeZero: a message whose numbers are all 0 is one, with a yes.
func TestP172TakeZero(t *testing.T) {
	w := fresh(t, 2)
	w.none(t, 0, 1)
	w.does(t, send(0, 1, 0, 0))
	w.none(t, 0)
	w.takes(t, 1, api.Mail{})
	w.none(t, 0, 1)
}

// TestP172TakeOfMany: of each number of messages the first one goes.
func TestP172TakeOfMany(t *testing.T) {
	for many := range 65 {
		w := fresh(t, 2, sends(1, 0, many)...)
		for i := range many {
			w.takes(t, 0, mail(1, 3, i))
			if n := w.b.Owed(1); n != many-1-i {
				t.Fatalf("of %d messages %d were taken, and Owed(1) = %d", many, i+1, n)
			}
		}
		w.none(t, 0)
	}
}

// TestP172Owed: each core is owed what it sent, in whatever boxes, not what it has.
func TestP172Owed(t *testing.T) {
	w := fresh(t, 4)
	w.does(t, send(0, 1, 1, 1), send(0, 2, 1, 1), send(0, 1, 2, 2), send(3, 0, 1, 1))
	owes(t, "sent", w.b, 3, 0, 0, 1)
	w.does(t, all(1, 1, 1))
	owes(t, "sent to all", w.b, 3, 3, 0, 1)
	w.follows(t, take(1))
	owes(t, "taken", w.b, 2, 3, 0, 1)
	w.follows(t, take(0))
	owes(t, "taken", w.b, 2, 3, 0, 0)
	w.follows(t, take(0), take(1), take(2), take(2), take(3))
	owes(t, "all taken", w.b, 0, 0, 0, 0)
}

// spoil writes over a list, and over its spare room.
func spoil(l []api.Mail) {
	l = l[:cap(l)]
	for i := range l {
		l[i] = mail(-999-i, -9, -9)
	}
}

// TestBoxIsNewMemory: R4: what is done to a list that was told changes no boxes, no copy and no other list; nor does a list change.
func TestBoxIsNewMemory(t *testing.T) {
	for _, w := range kinds(t) {
		for core := range w.p.cores {
			c := w.copied()
			kept, want := w.b.Box(core), w.p.box(core)
			spoil(w.b.Box(core))
			spoil(append(w.b.Box(core), mail(1, 1, 1)))
			spoil(c.b.Box(core))
			looks(t, "boxes whose list was changed outside", w.b, w.p)
			looks(t, "a copy whose list was changed outside", c.b, c.p)
			other := (core + 1) % w.p.cores
			w.follows(t, send(other, core, 1, 1), take(core), take(core), send(other, core, 2, 2), all(other, 3, 3))
			spoil(append(w.b.Box(core), mail(1, 1, 1)))
			w.looks(t, "boxes that went on")
			c.looks(t, "a copy that stayed")
			if !slices.Equal(kept, want) {
				t.Fatalf("a list became %v, not %v", kept, want)
			}
		}
	}
}

// changes are calls of each kind, of each core and of those right beside.
func changes(cores int) []call {
	var calls []call
	for a := -1; a <= cores; a++ {
		calls = append(calls, all(a, 1, 2), take(a))
		for b := -1; b <= cores; b++ {
			calls = append(calls, send(a, b, 3, 4))
		}
	}
	return calls
}

// TestP172CopyGoesItsOwnWay: R7: each change at the one leaves the other as it was; then both change.
func TestP172CopyGoesItsOwnWay(t *testing.T) {
	for _, origin := range kinds(t) {
		if origin.p.cores > 3 {
			continue
		}
		next := all(0, 6, 6)
		for _, a := range changes(origin.p.cores) {
			for _, b := range changes(origin.p.cores) {
				w := origin.copied()
				c := w.copied()
				w.follows(t, a)
				looks(t, "a copy whose original was changed", c.b, c.p)
				c.follows(t, b)
				looks(t, "an original whose copy was changed", w.b, w.p)
				w.follows(t, next)
				c.follows(t, take(0), take(origin.p.cores-1))
				looks(t, "an original whose copy went on", w.b, w.p)
			}
		}
		origin.looks(t, "what was copied")
	}
}

// TestP172CopyHasItsCores: a copy has the cores of its original, and the room, and so has a copy of it.
func TestP172CopyHasItsCores(t *testing.T) {
	for cores := 2; cores <= 8; cores++ {
		last := cores - 1
		w := fresh(t, cores, send(0, last, 1, 1)).copied().copied()
		w.refuses(t, api.ErrArg, send(0, cores, 1, 1), send(cores, 0, 1, 1), all(cores, 1, 1), send(0, -1, 1, 1))
		w.none(t, -1, cores)
		w.does(t, sends(0, last, 63)...)
		w = w.copied().copied()
		w.refuses(t, api.ErrBig, send(0, last, 1, 1), all(0, 1, 1))
		w.takes(t, last, mail(0, 1, 1))
		w.does(t, all(0, 1, 1))
	}
}

// TestAskingChangesNothing: what asks may be asked at any time, as often as one will.
func TestAskingChangesNothing(t *testing.T) {
	for _, w := range kinds(t) {
		for range 3 {
			for _, c := range append([]int{0, 1, 2, 3, 4, 5, 6, 7}, strangers...) {
				w.b.Owed(c)
				w.b.Box(c)
			}
			w.b.Copy()
			w.looks(t, "what was asked")
		}
	}
}

// TestRefusedChangesNothing: R2: in each kind of state each call that is refused leaves all as it was.
func TestRefusedChangesNothing(t *testing.T) {
	for _, w := range kinds(t) {
		refused := 0
		for _, c := range changes(w.p.cores) {
			if want := c.ofPlain(w.p.copied()); want.e != api.OK {
				w.refuses(t, want.e, c, c)
				refused++
			}
		}
		if refused < 8 {
			t.Errorf("only %d were refused at %s", refused, w.p.text())
		}
		w.looks(t, "what was refused")
	}
}

// TestAllOfFew: every call of one to three cores, behind every row of a few others that each change something.
func TestAllOfFew(t *testing.T) {
	for cores, deep := range []int{0, 5, 4, 3} {
		if cores == 0 {
			continue
		}
		work := []*pair{fresh(t, cores)}
		for range deep {
			var next []*pair
			for _, w := range work {
				for _, c := range changes(cores) {
					n := w.copied()
					n.follows(t, c)
					// What changed nothing is there already.
					if n.p.text() != w.p.text() {
						next = append(next, n)
					}
				}
				looks(t, "boxes whose copies were changed", w.b, w.p)
			}
			work = next
		}
	}
}

// row is a row of numbers that is the same at every run.
type row uint64

func (r *row) next(n int) int {
	*r = *r*6364136223846793005 + 1442695040888963407
	return int(*r>>33) % n
}

// core is one that there is, or now and then none.
func (r *row) core(cores int) int {
	if r.next(20) == 0 {
		return strangers[r.next(len(strangers))]
	}
	return r.next(cores)
}

// call is one about a number; boxes become full in some stretches of steps, and empty in others.
func (r *row) call(cores, step int) call {
	from, to := r.core(cores), r.core(cores)
	filling := step/(150*cores)%2 == 0
	switch kind := r.next(10); {
	case kind == 0 || filling && kind == 1:
		return all(from, r.next(4), step)
	case filling && kind < 9 || kind == 9:
		return send(from, to, r.next(4), step)
	}
	return take(to)
}

// TestManyCalls: whatever calls were done, boxes are as told, and copies of earlier stay.
func TestManyCalls(t *testing.T) {
	at := row(17)
	for cores := 1; cores <= 8; cores++ {
		w := fresh(t, cores)
		var earlier []*pair
		full := 0
		for step := range 3000 {
			c := at.call(cores, step)
			if c.ofPlain(w.p.copied()).e == api.ErrBig {
				full++
			}
			w.follows(t, c)
			if step%300 == 50 {
				earlier = append(earlier, w.copied())
			}
			if step%150 == 75 {
				// The copy goes on in its original's place: nothing may tell them apart.
				w = w.copied()
			}
		}
		if full < 20 && cores > 1 {
			t.Errorf("%d cores: only %d calls found a full box", cores, full)
		}
		for _, c := range earlier {
			c.looks(t, "a copy of earlier")
		}
	}
}

// reached are to whom a call that was done sent, of so many cores.
func (c call) reached(cores int) []int {
	var to []int
	for core := range cores {
		if c.kind == "Send" && core == c.to || c.kind == "All" && core != c.m.From {
			to = append(to, core)
		}
	}
	return to
}

// TestP173 asks of boxes alone: each message is taken once, by whom it was sent to, and in order; when a core is owed none all that it sent was heard.
func TestP173(t *testing.T) {
	at := row(173)
	for cores := 1; cores <= 8; cores++ {
		b, _ := mailbox.New(cores)
		sent, heard := make([]int, cores), make([]int, cores) // by who sent
		came, went := make([][]api.Mail, cores), make([]int, cores)
		for step := range 4000 {
			c := at.call(cores, step)
			got := c.of(b)
			if c.kind != "Take" && got.e == api.OK {
				for _, to := range c.reached(cores) {
					came[to] = append(came[to], c.m)
					sent[c.m.From]++
				}
			}
			if got.is {
				core := c.m.From
				if want := came[core][went[core]]; got.m != want {
					t.Fatalf("%d cores, step %d: %d took %v, not %v", cores, step, core, got.m, want)
				}
				went[core]++
				heard[got.m.From]++
			}
			for core := range cores {
				if n := b.Owed(core); n != sent[core]-heard[core] {
					t.Fatalf("%d cores, step %d: %d sent %d, of which %d were heard, and is owed %d", cores, step, core, sent[core], heard[core], n)
				}
			}
		}
		for core := range cores {
			rest := came[core][went[core]:]
			holds(t, "at the end", b, core, rest...)
			for _, m := range rest {
				if got, is := b.Take(core); got != m || !is {
					t.Fatalf("%d cores: %d took %v, %v, not %v, at the end", cores, core, got, is, m)
				}
			}
			if went[core] < 100 && cores > 1 {
				t.Errorf("%d cores: only %d were taken of %d's box", cores, went[core], core)
			}
		}
		owes(t, "all heard", b, make([]int, cores)...)
	}
}

// TestP173HeardByAll: who sent to all is owed none just when all others have taken, in whatever order they do.
func TestP173HeardByAll(t *testing.T) {
	at := row(5)
	for cores := 2; cores <= 8; cores++ {
		for from := range cores {
			w := fresh(t, cores)
			var order []int
			for about := range 3 {
				w.does(t, all(from, 1, about))
				order = append(order, all(from, 1, about).reached(cores)...)
			}
			for left := len(order); left > 0; left-- {
				if n := w.b.Owed(from); n != left {
					t.Fatalf("%d cores: %d are not taken yet, and Owed(%d) = %d", cores, left, from, n)
				}
				i := at.next(left)
				w.follows(t, take(order[i]))
				order = slices.Delete(order, i, i+1)
			}
			owes(t, "all heard", w.b, make([]int, cores)...)
		}
	}
}

// TestP173LongRow: however many come and go, each one is taken in its turn.
func TestP173LongRow(t *testing.T) {
	b, _ := mailbox.New(2)
	for i := range 63 {
		b.Send(0, 1, 0, i)
	}
	for i := range 20000 {
		if e := b.Send(0, 1, 0, i+63); e != api.OK || b.Owed(0) != 64 {
			t.Fatalf("message %d: Send = %d, Owed(0) = %d", i+63, e, b.Owed(0))
		}
		if m, is := b.Take(1); m != mail(0, 0, i) || !is {
			t.Fatalf("message %d: Take(1) = %v, %v", i, m, is)
		}
	}
}

// TestOneAnswer: R5: the same calls are answered the same at every run of them.
func TestOneAnswer(t *testing.T) {
	var first string
	for run := range 5 {
		at := row(77)
		b, _ := mailbox.New(5)
		got := ""
		for step := range 1000 {
			got += fmt.Sprintln(at.call(5, step).of(b), b.Box(step%5), b.Owed(step%5))
		}
		if run == 0 {
			first = got
		}
		if got != first {
			t.Fatal("another run answered otherwise")
		}
	}
}

package irq_test

import (
	"fmt"
	"math"
	"slices"
	"testing"

	"buttress/api"
	"buttress/irq"
)

const maxWord = math.MaxUint64

// badges are no bit, each bit alone, all bits, all but one, and some.
func badges() []uint64 {
	l := []uint64{0, maxWord, 5, 6, 8, 1<<32 + 1, 0xffffffff, 0xaaaaaaaaaaaaaaaa, 0x5555555555555555}
	for i := range 64 {
		l = append(l, 1<<i, ^uint64(1<<i))
	}
	return l
}

// notes may all be bound to; some have the lowest bits of another one.
var notes = []int{0, 1, 3, 63, 64, 255, 1 << 31, 1 << 32, 1<<32 + 3, 1 << 62, math.MaxInt - 1, math.MaxInt}

// below are notes that may not.
var below = []int{-1, -2, -64, -1 << 31, -1 << 32, 3 - 1<<32, math.MinInt + 1, math.MinInt}

// counts are how many lines there may be, of which the edges are told.
var counts = []int{1, 2, 3, 8, 63, 64}

// outside are numbers of which n lines have none; some have the lowest bits of a line.
func outside(n int) []int {
	return []int{n, n + 1, 2 * n, 64, 65, 128, 256, 1 << 31, 1 << 32, 1<<32 + n - 1, 1 << 62, math.MaxInt - 1, math.MaxInt,
		-1, -2, -n, -n - 1, -64, -1 << 31, -1 << 32, n - 1 - 1<<32, math.MinInt, math.MinInt + 1, math.MinInt + n - 1}
}

// opens holds what Open tells of a line to what it should be.
func opens(t *testing.T, what string, l *irq.Lines, line int, open, meanwhile bool) {
	t.Helper()
	if o, m := l.Open(line); o != open || m != meanwhile {
		t.Fatalf("%s: Open(%d) = %v, %v, not %v, %v", what, line, o, m, open, meanwhile)
	}
}

// shows holds all that Open tells to what it should be.
func shows(t *testing.T, what string, l *irq.Lines, want plain) {
	t.Helper()
	for line, w := range want {
		opens(t, what, l, line, w.open(), w.meanwhile())
	}
	for _, line := range []int{-1, len(want), math.MinInt, math.MaxInt} {
		opens(t, what, l, line, false, false)
	}
}

// tries does calls of one kind at a copy, at all lines, and holds what is answered, and what Open tells then, to what it should be.
func tries(t *testing.T, what string, l *irq.Lines, p plain, kinds ...string) {
	t.Helper()
	c, p := l.Copy(), slices.Clone(p)
	for _, kind := range kinds {
		for line := -1; line <= len(p); line++ {
			x := call{kind, line, 99, 77}
			want := x.ofPlain(p)
			if got := x.of(c); got != want {
				t.Fatalf("%s: then a copy's %+v (of %v) answers %+v, not %+v", what, x, kinds, got, want)
			}
		}
		shows(t, what, c, p)
	}
}

// looks holds all that lines tell to what it should be, and what copies tell of what is kept within: who is bound, to what.
func looks(t *testing.T, what string, l *irq.Lines, want plain) {
	t.Helper()
	shows(t, what, l, want)
	shows(t, what, l, want)
	tries(t, what, l, want, "Bind", "Raise")
	tries(t, what, l, want, "Free", "Raise", "Ack")
	tries(t, what, l, want, "Raise", "Raise", "Ack")
	tries(t, what, l, want, "Ack", "Ack", "Raise")
	shows(t, what, l, want)
}

// pair are lines, and what they should be.
type pair struct {
	l *irq.Lines
	p plain
}

func (w *pair) copied() *pair {
	return &pair{w.l.Copy(), slices.Clone(w.p)}
}

// follows does calls at both, and holds them to each other behind each.
func (w *pair) follows(t *testing.T, calls ...call) {
	t.Helper()
	for _, c := range calls {
		want := c.ofPlain(w.p)
		if got := c.of(w.l); got != want {
			t.Fatalf("%+v answers %+v, not %+v; then there are %+v", c, got, want, w.p)
		}
		looks(t, fmt.Sprintf("%+v", c), w.l, w.p)
	}
}

// does holds a call to what is told here, beside what follows holds it to.
func (w *pair) does(t *testing.T, c call, want answer) {
	t.Helper()
	if got := c.of(w.l.Copy()); got != want {
		t.Fatalf("%+v of %+v answers %+v, not %+v", c, w.p, got, want)
	}
	w.follows(t, c)
}

// leaves holds a call to what is told here, and to change nothing.
func (w *pair) leaves(t *testing.T, c call, want answer) {
	t.Helper()
	if got := c.of(w.l); got != want {
		t.Fatalf("%+v of %+v answers %+v, not %+v", c, w.p, got, want)
	}
	looks(t, fmt.Sprintf("%+v that changes nothing", c), w.l, w.p)
}

// is holds a line to be open, or raised meanwhile, or neither.
func (w *pair) is(t *testing.T, line int, open, meanwhile bool) {
	t.Helper()
	opens(t, w.p.text(), w.l, line, open, meanwhile)
}

// fresh are n lines, behind some calls.
func fresh(t *testing.T, n int, calls ...call) *pair {
	t.Helper()
	l, e := irq.New(n)
	if l == nil || e != api.OK {
		t.Fatalf("New(%d) = %v, %d", n, l, e)
	}
	w := &pair{l, make(plain, n)}
	looks(t, fmt.Sprintf("New(%d)", n), w.l, w.p)
	w.follows(t, calls...)
	return w
}

// states are ways to each state of a line that is bound, with what Open tells then.
var states = []struct {
	letters         string
	open, meanwhile bool
}{
	{"", true, false},
	{"R", false, false},
	{"RR", false, true},
	{"RRR", false, true},
	{"RRRRRR", false, true},
	{"A", true, false},
	{"AA", true, false},
	{"AR", false, false},
	{"RA", true, false},
	{"RAA", true, false},
	{"RAR", false, false},
	{"RARR", false, true},
	{"RRA", false, false},
	{"RRRA", false, false},
	{"RRAA", true, false},
	{"RRAAA", true, false},
	{"RRAR", false, true},
	{"RRARA", false, false},
	{"RRARAA", true, false},
	{"RRAAR", false, false},
}

// by are the calls of letters at a line.
func by(letters string, line int) []call {
	var l []call
	for _, r := range letters {
		if r == 'R' {
			l = append(l, raise(line))
		} else {
			l = append(l, ack(line))
		}
	}
	return l
}

// bound are three lines, of which the given one is bound to 3 with 8, behind some letters.
func bound(t *testing.T, line int, letters string) *pair {
	t.Helper()
	w := fresh(t, 3)
	w.does(t, bind(line, 3, 8), done)
	w.follows(t, by(letters, line)...)
	return w
}

func TestExample(t *testing.T) {
	w := fresh(t, 1)
	w.does(t, bind(0, 3, 8), done)
	w.does(t, raise(0), signals(3, 8))
	w.does(t, raise(0), no)
	w.does(t, ack(0), signals(3, 8))
	w.does(t, ack(0), no)
	w.does(t, raise(0), signals(3, 8))
}

func TestP131New(t *testing.T) {
	for n := 1; n <= 64; n++ {
		w := fresh(t, n)
		for line := range n {
			w.is(t, line, false, false)
			w.leaves(t, free(line), busy)
		}
		w.leaves(t, free(n), noLine)
		w.does(t, bind(n-1, 1, 1), done)
	}
	for _, n := range []int{0, 65, 66, 128, 256, 1 << 31, 1 << 32, 1<<32 + 1, 1<<32 + 64, 1 << 62, math.MaxInt - 1, math.MaxInt,
		-1, -2, -64, -1 << 31, -1 << 32, 1 - 1<<32, math.MinInt, math.MinInt + 1, math.MinInt + 64} {
		if l, e := irq.New(n); l != nil || e != api.ErrArg {
			t.Errorf("New(%d) = %v, %d", n, l, e)
		}
	}
}

// TestP131NewOnesApart: lines that are made know nothing of others that were made.
func TestP131NewOnesApart(t *testing.T) {
	a := fresh(t, 2, bind(0, 3, 8), bind(1, 4, 9), raise(1), raise(1))
	b := fresh(t, 2)
	b.does(t, bind(1, 5, 1), done)
	b.is(t, 0, false, false)
	looks(t, "lines beside others", a.l, a.p)
}

// TestP131NoLine: whatever is asked of a line that is not there, and whatever the lines are, there is none; a note below 0 makes no difference.
func TestP131NoLine(t *testing.T) {
	for _, n := range counts {
		full := fresh(t, n)
		for line := range n {
			full.follows(t, bind(line, line, uint64(line)))
			full.follows(t, by(states[line%4].letters, line)...)
		}
		for _, w := range []*pair{fresh(t, n), full} {
			for _, line := range outside(n) {
				for _, note := range []int{0, 3, math.MaxInt, -1, math.MinInt} {
					w.leaves(t, bind(line, note, 8), noLine)
				}
				w.leaves(t, free(line), noLine)
				w.leaves(t, raise(line), noLine)
				w.leaves(t, ack(line), noLine)
				w.is(t, line, false, false)
			}
		}
	}
}

// TestP131FirstAndLast: the first line and the last one are lines as all others.
func TestP131FirstAndLast(t *testing.T) {
	for _, n := range counts {
		for _, line := range []int{0, n - 1} {
			w := fresh(t, n)
			w.leaves(t, free(line), busy)
			w.leaves(t, raise(line), no)
			w.leaves(t, ack(line), no)
			w.does(t, bind(line, 6, 7), done)
			w.is(t, line, true, false)
			w.leaves(t, bind(line, 6, 7), busy)
			w.leaves(t, ack(line), no)
			w.does(t, raise(line), signals(6, 7))
			w.is(t, line, false, false)
			w.does(t, raise(line), no)
			w.is(t, line, false, true)
			w.does(t, ack(line), signals(6, 7))
			w.is(t, line, false, false)
			w.does(t, ack(line), no)
			w.is(t, line, true, false)
			w.does(t, free(line), done)
			w.is(t, line, false, false)
			w.leaves(t, free(line), busy)
		}
	}
}

// TestP131BindAnyNumbers: every note that is not below 0 and every badge come back as they were given, by a Raise and by an Ack.
func TestP131BindAnyNumbers(t *testing.T) {
	for _, note := range notes {
		for _, badge := range badges() {
			w := fresh(t, 1)
			w.does(t, bind(0, note, badge), done)
			w.is(t, 0, true, false)
			w.does(t, raise(0), signals(note, badge))
			w.does(t, raise(0), no)
			w.does(t, ack(0), signals(note, badge))
		}
	}
}

// TestP131BindBelow: a note below 0 is told ahead of a line that is bound, and behind one that is not there.
func TestP131BindBelow(t *testing.T) {
	for _, note := range below {
		for _, badge := range []uint64{0, 1, maxWord} {
			w := fresh(t, 3)
			w.leaves(t, bind(1, note, badge), arg)
			w.leaves(t, bind(3, note, badge), noLine)
			w.leaves(t, bind(-1, note, badge), noLine)
			w.does(t, bind(1, 3, 8), done)
			w.leaves(t, bind(1, note, badge), arg)
			w.leaves(t, bind(2, note, badge), arg)
			w.leaves(t, bind(3, note, badge), noLine)
			w.does(t, free(1), done)
			w.leaves(t, bind(1, note, badge), arg)
		}
	}
}

// TestP131BindBusy: a line that is bound, in whichever state, keeps its note, its badge and its state, whatever it would be bound to.
func TestP131BindBusy(t *testing.T) {
	for _, s := range states {
		w := bound(t, 1, s.letters)
		for _, again := range []call{bind(1, 3, 8), bind(1, 0, 0), bind(1, math.MaxInt, maxWord), bind(1, 3, 9), bind(1, 4, 8)} {
			w.leaves(t, again, busy)
			w.is(t, 1, s.open, s.meanwhile)
		}
		w.leaves(t, bind(1, -1, 8), arg)
		w.leaves(t, bind(1, math.MinInt, 8), arg)
	}
}

// TestP131Free: a line in any state is freed once; then nothing is left of it, and it may be bound anew, to the same or to others.
func TestP131Free(t *testing.T) {
	for _, s := range states {
		for _, x := range []answer{signals(3, 8), signals(0, 0), signals(9, maxWord)} {
			w := bound(t, 2, s.letters)
			w.does(t, free(2), done)
			w.is(t, 2, false, false)
			w.leaves(t, free(2), busy)
			w.leaves(t, raise(2), no)
			w.leaves(t, raise(2), no)
			w.leaves(t, ack(2), no)
			w.leaves(t, ack(2), no)
			w.leaves(t, bind(2, -1, 0), arg)
			w.does(t, bind(2, x.note, x.badge), done)
			w.is(t, 2, true, false)
			w.leaves(t, ack(2), no)
			w.does(t, raise(2), x)
			w.does(t, ack(2), no)
			w.does(t, raise(2), x)
			w.does(t, raise(2), no)
			w.does(t, ack(2), x)
			w.does(t, free(2), done)
			w.leaves(t, free(2), busy)
		}
	}
}

// TestP131Unbound: Raise and Ack of a line that is not bound do nothing, however often; it is open when it is bound then.
func TestP131Unbound(t *testing.T) {
	w := fresh(t, 2)
	for range 3 {
		w.leaves(t, raise(0), no)
		w.leaves(t, raise(0), no)
		w.leaves(t, ack(0), no)
		w.leaves(t, ack(0), no)
	}
	w.does(t, bind(0, 3, 8), done)
	w.is(t, 0, true, false)
	w.does(t, raise(0), signals(3, 8))
}

func TestP131Raise(t *testing.T) {
	w := fresh(t, 2)
	w.does(t, bind(1, 3, 8), done)
	w.does(t, raise(1), signals(3, 8))
	w.is(t, 1, false, false)
	w.does(t, raise(1), no)
	w.is(t, 1, false, true)
	for range 5 {
		w.leaves(t, raise(1), no)
		w.is(t, 1, false, true)
	}
}

func TestP131Ack(t *testing.T) {
	w := fresh(t, 2)
	w.does(t, bind(1, 3, 8), done)
	for range 3 {
		w.leaves(t, ack(1), no)
		w.is(t, 1, true, false)
	}
	w.does(t, raise(1), signals(3, 8))
	w.does(t, ack(1), no)
	w.is(t, 1, true, false)
	w.leaves(t, ack(1), no)
	w.does(t, raise(1), signals(3, 8))
	w.does(t, raise(1), no)
	w.does(t, ack(1), signals(3, 8))
	w.is(t, 1, false, false)
	w.does(t, ack(1), no)
	w.is(t, 1, true, false)
	w.leaves(t, ack(1), no)
}

// TestP131RaisedBehindAnAck: the line that an Ack told is not open: a Raise is meanwhile once more.
func TestP131RaisedBehindAnAck(t *testing.T) {
	w := bound(t, 0, "RR")
	for range 4 {
		w.does(t, ack(0), signals(3, 8))
		w.is(t, 0, false, false)
		w.does(t, raise(0), no)
		w.is(t, 0, false, true)
		w.leaves(t, raise(0), no)
	}
}

func TestP132Open(t *testing.T) {
	for _, s := range states {
		for line := range 3 {
			w := bound(t, line, s.letters)
			for other := -1; other <= 3; other++ {
				w.is(t, other, s.open && other == line, s.meanwhile && other == line)
			}
		}
	}
}

// TestOthersStay: what is done to a line makes no difference to any other one, in whichever states they are.
func TestOthersStay(t *testing.T) {
	for _, n := range []int{2, 3, 64} {
		for line := range n {
			if n == 64 && line > 1 && line < 62 {
				continue
			}
			w := fresh(t, n)
			for other := range n {
				if other != line && other%5 != 4 {
					w.follows(t, bind(other, other, 1<<other))
					w.follows(t, by([]string{"", "R", "RR", "RRA"}[other%5], other)...)
				}
			}
			was := slices.Clone(w.p)
			same := func() {
				t.Helper()
				for other := range n {
					if other != line {
						w.is(t, other, was[other].open(), was[other].meanwhile())
					}
				}
			}
			for _, c := range []call{raise(line), bind(line, 70, 80), raise(line), raise(line), ack(line), ack(line), ack(line), raise(line), free(line), ack(line)} {
				w.follows(t, c)
				same()
			}
		}
	}
}

// TestOneNote: lines may have the same note and the same badge, and are told each for itself.
func TestOneNote(t *testing.T) {
	w := fresh(t, 3, bind(0, 3, 8), bind(1, 3, 8), bind(2, 3, 8))
	for line := range 3 {
		w.does(t, raise(line), signals(3, 8))
	}
	w.does(t, raise(1), no)
	w.does(t, ack(0), no)
	w.does(t, ack(1), signals(3, 8))
	w.does(t, free(2), done)
	w.does(t, raise(0), signals(3, 8))
}

// kinds are lines in each kind of state.
func kinds(t *testing.T) []*pair {
	t.Helper()
	l := []*pair{fresh(t, 1), fresh(t, 3), fresh(t, 3, bind(2, 0, 0)), fresh(t, 2, bind(0, 3, 8), free(0))}
	for _, s := range states[:5] {
		w := fresh(t, 3, bind(0, 3, 8), bind(1, 4, 16))
		w.follows(t, by(s.letters, 1)...)
		l = append(l, w)
	}
	return l
}

// TestP132CopyGoesItsOwnWay: each change at the one leaves the other as it was; then both change.
func TestP132CopyGoesItsOwnWay(t *testing.T) {
	changes := []call{bind(0, 6, 1), bind(2, 7, 2), free(0), free(1), raise(0), raise(1), ack(0), ack(1)}
	for _, origin := range kinds(t) {
		for _, a := range changes {
			for _, b := range changes {
				w := origin.copied()
				c := w.copied()
				looks(t, "copies", c.l, c.p)
				w.follows(t, a)
				looks(t, "copies whose originals were changed", c.l, c.p)
				c.follows(t, b)
				looks(t, "originals whose copies were changed", w.l, w.p)
				w.follows(t, raise(0), raise(0), free(1), bind(1, 60, 61))
				c.follows(t, raise(1), ack(1), free(0), bind(0, 70, 71), raise(0))
				looks(t, "originals whose copies went on", w.l, w.p)
			}
		}
		looks(t, "what was copied", origin.l, origin.p)
	}
}

// TestP132CopyOfAll: a copy has all lines that there are, each in its state, and no more.
func TestP132CopyOfAll(t *testing.T) {
	for _, n := range counts {
		w := fresh(t, n)
		for line := range n {
			w.follows(t, bind(line, 1000-line, ^uint64(line)))
			w.follows(t, by(states[line%len(states)].letters, line)...)
		}
		c := w.copied().copied()
		looks(t, "a copy's copy", c.l, c.p)
		for line := range n {
			w.follows(t, free(line))
		}
		looks(t, "a copy whose originals are free", c.l, c.p)
	}
}

// TestAskingChangesNothing: Open and Copy may be asked at any time, as often as one will.
func TestAskingChangesNothing(t *testing.T) {
	for _, w := range kinds(t) {
		for range 3 {
			for line := -1; line <= 3; line++ {
				w.l.Open(line)
			}
			w.l.Copy()
			looks(t, "what was asked", w.l, w.p)
		}
	}
}

// TestRefusedChangesNothing: R2 and R3, in each kind of state: beside an error all is zero, and stays.
func TestRefusedChangesNothing(t *testing.T) {
	for _, w := range kinds(t) {
		for line, x := range w.p {
			w.leaves(t, bind(line, -1, 5), arg)
			if x.bound {
				w.leaves(t, bind(line, 5, 5), busy)
			} else {
				w.leaves(t, free(line), busy)
			}
		}
		for _, line := range []int{-1, len(w.p), math.MinInt, math.MaxInt} {
			for _, c := range []call{bind(line, 5, 5), bind(line, -1, 5), free(line), raise(line), ack(line)} {
				w.leaves(t, c, noLine)
			}
		}
	}
}

// TestAllOfTwo: every call at every state of two lines, notes and badges.
func TestAllOfTwo(t *testing.T) {
	var calls []call
	for line := -1; line <= 2; line++ {
		calls = append(calls, free(line), raise(line), ack(line))
		for note := -1; note <= 1; note++ {
			calls = append(calls, bind(line, note, 0), bind(line, note, 1))
		}
	}
	w := fresh(t, 2)
	seen := map[string]int{w.p.text(): 1}
	for work := []*pair{w}; len(work) > 0; work = work[1:] {
		for _, c := range calls {
			next := work[0].copied()
			next.follows(t, c)
			to := next.p.text()
			if seen[to]++; seen[to] == 1 {
				work = append(work, next)
			}
		}
		looks(t, "lines whose copies were changed", work[0].l, work[0].p)
	}
	// A line is not bound, or is to one of two notes with one of two badges, in one of three states.
	if one := 1 + 2*2*3; len(seen) != one*one {
		t.Errorf("there are %d states, not %d", len(seen), one*one)
	}
}

// row is a row of numbers that is the same at every run.
type row uint64

func (r *row) next(n int) int {
	*r = *r*6364136223846793005 + 1442695040888963407
	return int(*r>>33) % n
}

// call is one of many lines'; most raise or are heard.
func (r *row) call(many int) call {
	line := r.next(many)
	if r.next(20) == 0 {
		far := outside(many)
		line = far[r.next(len(far))]
	}
	switch r.next(12) {
	case 0, 1:
		note := notes[r.next(len(notes))]
		if r.next(10) == 0 {
			note = below[r.next(len(below))]
		}
		return bind(line, note, uint64(r.next(1<<30))<<r.next(35))
	case 2:
		return free(line)
	case 3, 4, 5, 6, 7:
		return raise(line)
	}
	return ack(line)
}

// TestManyCalls: whatever calls were done, lines are as told, and copies of earlier stay.
func TestManyCalls(t *testing.T) {
	at := row(13)
	for _, many := range counts {
		w := fresh(t, many)
		var earlier []*pair
		for step := range 2000 {
			w.follows(t, at.call(many))
			if step%100 == 50 {
				earlier = append(earlier, w.copied())
			}
			if step%150 == 75 {
				// The copies go on in their originals' place: nothing may tell them apart.
				w = w.copied()
			}
		}
		for _, c := range earlier {
			looks(t, "copies of earlier", c.l, c.p)
		}
	}
}

// TestP133 asks of lines alone, while they are bound: between two that are told there is an Ack, and what was raised is told at once, or once by the next Ack.
func TestP133(t *testing.T) {
	const many = 5
	at := row(133)
	l, _ := irq.New(many)
	for line := range many {
		l.Bind(line, 10+line, 1<<line)
	}
	var heard [many]int  // how many Acks there were since a line was told
	var raised [many]int // how many Raises there were for which it was not told yet
	var toldOf [many]bool
	told, late := 0, 0
	for step := range 40000 {
		line := at.next(many)
		c := raise(line)
		// Now many are raised between two Acks, now few.
		if at.next(2+step/1000%6) == 0 {
			c = ack(line)
			heard[line]++
		} else {
			raised[line]++
		}
		got := c.of(l)
		if got.e != api.OK || !got.is && got != no || got.is && got != signals(10+line, 1<<line) {
			t.Fatalf("step %d: %+v answers %+v", step, c, got)
		}
		if c.kind == "Ack" && got.is != (raised[line] > 0) {
			t.Fatalf("step %d: %+v answers %+v, and it was raised %d times", step, c, got, raised[line])
		}
		if got.is {
			if toldOf[line] && heard[line] == 0 {
				t.Fatalf("step %d: line %d is told twice without an Ack", step, line)
			}
			if raised[line] > 1 {
				late++
			}
			told++
			toldOf[line], heard[line], raised[line] = true, 0, 0
		}
		if open, meanwhile := l.Open(line); open && raised[line] > 0 || meanwhile != (raised[line] > 0) {
			t.Fatalf("step %d: behind %+v Open = %v, %v, and it was raised %d times", step, c, open, meanwhile, raised[line])
		}
	}
	if told < 5000 || late < 1000 {
		t.Errorf("only %d were told, of which %d were raised more than once", told, late)
	}
}

// TestP133Once: however often a line is raised meanwhile, it is told once for it: by the first Ack, not by a second one, and then it is open.
func TestP133Once(t *testing.T) {
	for _, often := range []int{1, 2, 3, 10, 255, 256, 257, 65535, 65536, 65537} {
		l, _ := irq.New(2)
		l.Bind(1, 3, 8)
		told := 0
		tell := func(c call) {
			if c.of(l).is {
				told++
			}
		}
		tell(raise(1))
		for range often {
			tell(raise(1))
		}
		if told != 1 {
			t.Fatalf("raised %d times meanwhile, and told %d times without an Ack", often, told)
		}
		tell(ack(1))
		if told != 2 {
			t.Fatalf("raised %d times meanwhile, heard, and told %d times", often, told)
		}
		tell(ack(1))
		tell(ack(1))
		if told != 2 {
			t.Fatalf("raised %d times meanwhile, heard three times, and told %d times", often, told)
		}
		opens(t, "heard", l, 1, true, false)
		tell(raise(1))
		if told != 3 {
			t.Fatalf("raised again when it was open, and told %d times", told)
		}
	}
}

// TestOneAnswer: the same calls are answered the same at every run of them.
func TestOneAnswer(t *testing.T) {
	var first []answer
	for run := range 5 {
		at := row(77)
		l, _ := irq.New(8)
		var got []answer
		for range 2000 {
			got = append(got, at.call(8).of(l))
		}
		if run == 0 {
			first = got
		}
		if !slices.Equal(got, first) {
			t.Fatal("another run answered otherwise")
		}
	}
}

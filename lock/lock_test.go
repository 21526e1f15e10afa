package lock_test

import (
	"fmt"
	"math"
	"slices"
	"testing"

	"buttress/api"
	"buttress/lock"
)

// strangers are no cores of any lock; many have the lowest bits of one that is.
var strangers = []int{
	-1, -2, -7, -8, -9, -64, -256, -1 << 31, -1 << 32, 1 - 1<<32, math.MinInt, math.MinInt + 1, math.MinInt + 7,
	8, 9, 15, 16, 63, 64, 65, 255, 256, 257, 1 << 31, 1 << 32, 1<<32 + 1, 1<<32 + 7, 1 << 62, math.MaxInt - 1, math.MaxInt,
}

// ask holds what Line, Holder and Ahead tell to what they should, of cores that are, and of those that are not.
func ask(t *testing.T, what string, l *lock.Lock, cores int, line ...int) {
	t.Helper()
	if got := l.Line(); !slices.Equal(got, line) {
		t.Fatalf("%s: Line() = %v, not %v", what, got, line)
	}
	holder := 0
	if len(line) > 0 {
		holder = line[0]
	}
	if h, is := l.Holder(); h != holder || is != (len(line) > 0) {
		t.Fatalf("%s: Holder() = %d, %v, of the line %v", what, h, is, line)
	}
	for c := -1; c <= cores; c++ {
		if n := l.Ahead(c); n != slices.Index(line, c) {
			t.Fatalf("%s: Ahead(%d) = %d, of the line %v", what, c, n, line)
		}
	}
}

// looks holds all that a lock tells to what it should be.
func looks(t *testing.T, what string, l *lock.Lock, want *plain) {
	t.Helper()
	ask(t, what, l, want.cores, want.line()...)
	for c := -1; c <= want.cores; c++ {
		if got, a := probe(c).of(l), probe(c).ofPlain(want); got != a {
			t.Fatalf("%s: Probe(%d) = %+v, not %+v, of %s", what, c, got, a, want.text())
		}
	}
	ask(t, what+", asked", l, want.cores, want.line()...)
}

// pair is a lock, and what it should be.
type pair struct {
	l *lock.Lock
	p *plain
}

func (w *pair) copied() *pair {
	return &pair{w.l.Copy(), w.p.copied()}
}

// looks holds all that it tells to what it should be, and a copy to go on as it should: all leave, and all enter, each core that there is.
func (w *pair) looks(t *testing.T, what string) {
	t.Helper()
	looks(t, what, w.l, w.p)
	c := w.copied()
	c.follows(t, leaves(c.p.line()...)...)
	for core := range w.p.cores {
		c.follows(t, enter(w.p.cores-1-core))
	}
	looks(t, what+", and a copy went on", w.l, w.p)
}

// answers holds a call to what is told here.
func (w *pair) answers(t *testing.T, c call, want answer) {
	t.Helper()
	if got := c.of(w.l); got != want {
		t.Fatalf("%+v answers %+v, not %+v; now there is %s", c, got, want, w.p.text())
	}
}

// follows does calls at both, and holds them to each other behind each.
func (w *pair) follows(t *testing.T, calls ...call) {
	t.Helper()
	for _, c := range calls {
		w.answers(t, c, c.ofPlain(w.p))
		looks(t, fmt.Sprintf("%+v", c), w.l, w.p)
	}
}

// does holds a call to be done, and to leave this line.
func (w *pair) does(t *testing.T, c call, line ...int) {
	t.Helper()
	w.copied().answers(t, c, answer{})
	w.follows(t, c)
	ask(t, fmt.Sprintf("%+v", c), w.l, w.p.cores, line...)
}

// refuses holds calls to answer an error, and to change nothing (R2); beside it there is a no (R3).
func (w *pair) refuses(t *testing.T, e api.Errno, calls ...call) {
	t.Helper()
	for _, c := range calls {
		w.answers(t, c, answer{e: e})
		looks(t, fmt.Sprintf("%+v that changes nothing", c), w.l, w.p)
	}
}

// tells holds what Probe says of a core in line.
func (w *pair) tells(t *testing.T, core int, holds bool) {
	t.Helper()
	for range 2 {
		w.answers(t, probe(core), answer{is: holds})
		looks(t, "Probe", w.l, w.p)
	}
}

// fresh is a lock behind some calls.
func fresh(t *testing.T, cores int, calls ...call) *pair {
	t.Helper()
	l, e := lock.New(cores)
	if e != api.OK || l == nil {
		t.Fatalf("New(%d) = %v, %d", cores, l, e)
	}
	w := &pair{l, free(cores)}
	looks(t, "New", l, w.p)
	w.follows(t, calls...)
	w.looks(t, "a new lock")
	return w
}

// lines are all rows of some of so many cores, each at most once in it.
func lines(cores int) [][]int {
	all := [][]int{nil}
	for at := 0; at < len(all); at++ {
		for c := range cores {
			if !slices.Contains(all[at], c) {
				all = append(all, append(slices.Clone(all[at]), c))
			}
		}
	}
	return all
}

// kinds are locks in each kind of state.
func kinds(t *testing.T) []*pair {
	t.Helper()
	return []*pair{
		fresh(t, 1),
		fresh(t, 1, enter(0)),
		fresh(t, 1, enter(0), leave(0)),
		fresh(t, 3),
		fresh(t, 3, enters(2)...),
		fresh(t, 3, enters(2, 0)...),
		fresh(t, 3, enters(1, 0, 2)...),
		fresh(t, 3, enter(1), enter(0), leave(1), enter(1)),
		fresh(t, 8),
		fresh(t, 8, enters(7)...),
		fresh(t, 8, enters(0, 7, 3)...),
		fresh(t, 8, enters(0, 1, 2, 3, 4, 5, 6, 7)...),
		fresh(t, 8, enters(7, 6, 5, 4, 3, 2, 1, 0)...),
		// These had others ahead, of which nothing may be left.
		fresh(t, 8, append(enters(4, 2, 6, 0), leaves(4, 2)...)...),
		fresh(t, 8, append(enters(4, 2, 6, 0), leaves(4, 2, 6, 0)...)...),
		fresh(t, 8, slices.Concat(enters(4, 2, 6), leaves(4, 2), enters(2, 4), leaves(6))...),
	}
}

func TestExample(t *testing.T) {
	w := fresh(t, 3)
	w.does(t, enter(2), 2)
	w.does(t, enter(0), 2, 0)
	w.tells(t, 0, false)
	w.tells(t, 2, true)
	w.does(t, leave(2), 0)
	if h, is := w.l.Holder(); h != 0 || !is {
		t.Errorf("Holder() = %d, %v, not 0, true", h, is)
	}
	w.tells(t, 0, true)
}

// TestP161New: nobody stands in line at first; each core that there is can, and no other one.
func TestP161New(t *testing.T) {
	for cores := 1; cores <= 8; cores++ {
		w := fresh(t, cores)
		ask(t, "New", w.l, 8)
		var line []int
		for c := range cores {
			w.refuses(t, api.ErrLockNone, probe(c), leave(c))
			line = append(line, c)
			w.does(t, enter(c), line...)
		}
		for c := cores; c <= 9; c++ {
			w.refuses(t, api.ErrArg, enter(c), probe(c), leave(c))
		}
	}
}

// TestP161NewWrong: R3: beside the error there is no lock.
func TestP161NewWrong(t *testing.T) {
	for _, cores := range append([]int{0}, strangers...) {
		if cores == 8 {
			continue
		}
		if l, e := lock.New(cores); l != nil || e != api.ErrArg {
			t.Errorf("New(%d) = %v, %d, not nil, %d", cores, l, e, api.ErrArg)
		}
	}
}

// TestNewAlone: a new lock knows nothing of others.
func TestNewAlone(t *testing.T) {
	a := fresh(t, 4, enters(3, 1)...)
	b := fresh(t, 4)
	b.refuses(t, api.ErrLockNone, probe(3), leave(3), probe(1), leave(1))
	b.follows(t, enter(1), enter(0), leave(1))
	a.looks(t, "a lock beside another one")
	b.looks(t, "another one")
}

// TestP161NoSuchCore: ErrArg at all three, in each kind of state, and nothing changes (R2); nobody such stands in line.
func TestP161NoSuchCore(t *testing.T) {
	for _, w := range kinds(t) {
		for _, c := range append([]int{w.p.cores, w.p.cores + 1}, strangers...) {
			w.refuses(t, api.ErrArg, enter(c), probe(c), leave(c), enter(c))
			if n := w.l.Ahead(c); n != -1 {
				t.Fatalf("Ahead(%d) = %d, of %s", c, n, w.p.text())
			}
		}
		w.looks(t, "a lock at which others were refused")
	}
}

// TestP161FirstAndLastCore: the first and the last core of each lock are cores as all are.
func TestP161FirstAndLastCore(t *testing.T) {
	for cores := 1; cores <= 8; cores++ {
		for _, c := range []int{0, cores - 1} {
			w := fresh(t, cores)
			w.refuses(t, api.ErrLockNone, probe(c), leave(c))
			w.does(t, enter(c), c)
			w.tells(t, c, true)
			w.does(t, leave(c))
			w.refuses(t, api.ErrLockNone, probe(c), leave(c))
		}
	}
}

// TestP161Enter: into no line, behind others, and again behind having left: it is the last one.
func TestP161Enter(t *testing.T) {
	w := fresh(t, 4)
	w.does(t, enter(2), 2)
	w.does(t, enter(3), 2, 3)
	w.does(t, enter(0), 2, 3, 0)
	w.does(t, enter(1), 2, 3, 0, 1)
	w.does(t, leave(2), 3, 0, 1)
	w.does(t, enter(2), 3, 0, 1, 2)
	w.does(t, leave(3), 0, 1, 2)
	w.does(t, leave(0), 1, 2)
	w.does(t, enter(0), 1, 2, 0)
	w.does(t, enter(3), 1, 2, 0, 3)
	alone := fresh(t, 4)
	for range 3 {
		alone.does(t, enter(1), 1)
		alone.does(t, leave(1))
	}
}

// TestP161EnterThere: who stands in line keeps its place, as the holder, in the middle and as the last one.
func TestP161EnterThere(t *testing.T) {
	for cores := 1; cores <= 8; cores++ {
		w := fresh(t, cores)
		for c := range cores {
			w.follows(t, enter(c))
			for there := range c + 1 {
				w.refuses(t, api.ErrLockThere, enter(there), enter(there))
			}
		}
		for c := range cores {
			w.does(t, leave(c), w.p.line()[1:]...)
			for there := c + 1; there < cores; there++ {
				w.refuses(t, api.ErrLockThere, enter(there))
			}
		}
	}
}

// TestP161Probe: the holder is told yes, those behind it no, others an error.
func TestP161Probe(t *testing.T) {
	w := fresh(t, 5, enters(4, 1, 2)...)
	w.tells(t, 4, true)
	w.tells(t, 1, false)
	w.tells(t, 2, false)
	w.refuses(t, api.ErrLockNone, probe(0), probe(3))
	w.refuses(t, api.ErrArg, probe(5), probe(-1))
	w.does(t, leave(4), 1, 2)
	w.refuses(t, api.ErrLockNone, probe(4))
	w.tells(t, 1, true)
	w.tells(t, 2, false)
	w.does(t, enter(4), 1, 2, 4)
	w.tells(t, 4, false)
}

// TestP161ProbeChangesNothing: it may be asked at any time, as often as one will.
func TestP161ProbeChangesNothing(t *testing.T) {
	for _, w := range kinds(t) {
		for range 3 {
			for c := range w.p.cores {
				w.answers(t, probe(c), probe(c).ofPlain(w.p))
				ask(t, "Probe", w.l, w.p.cores, w.p.line()...)
			}
		}
		w.looks(t, "a lock that was asked")
	}
}

// TestP161Leave: the holder alone leaves, and the next one holds the lock.
func TestP161Leave(t *testing.T) {
	w := fresh(t, 5, enters(4, 1, 2)...)
	w.refuses(t, api.ErrLockNone, leave(1), leave(2), leave(0), leave(3))
	w.refuses(t, api.ErrArg, leave(5), leave(-1))
	w.does(t, leave(4), 1, 2)
	w.refuses(t, api.ErrLockNone, leave(4), leave(2), leave(4))
	w.does(t, leave(1), 2)
	w.refuses(t, api.ErrLockNone, leave(4), leave(1))
	w.does(t, leave(2))
	w.refuses(t, api.ErrLockNone, each(leave, 0, 1, 2, 3, 4)...)
	w.does(t, enter(1), 1)
	w.refuses(t, api.ErrLockNone, leave(2))
	w.does(t, leave(1))
}

// TestP162HolderAndLine: of none, of one, of all, in whatever order they came.
func TestP162HolderAndLine(t *testing.T) {
	for cores := 1; cores <= 5; cores++ {
		for _, line := range lines(cores) {
			l, _ := lock.New(cores)
			for _, c := range line {
				if e := l.Enter(c); e != api.OK {
					t.Fatalf("Enter(%d) = %d, of %v", c, e, line)
				}
			}
			ask(t, "a line", l, cores, line...)
			ask(t, "a line, and again", l, cores, line...)
		}
	}
	for turn := range 8 {
		l, _ := lock.New(8)
		var all []int
		for i := range 8 {
			// As 3 and 8 have no factor in common each core comes once.
			all = append(all, (turn+3*i)%8)
			l.Enter(all[i])
		}
		ask(t, "all", l, 8, all...)
	}
}

// TestP162HolderNone: R3: beside the no there is 0, whoever held it before.
func TestP162HolderNone(t *testing.T) {
	for c := range 8 {
		w := fresh(t, 8, enter(c), leave(c))
		if h, is := w.l.Holder(); h != 0 || is {
			t.Errorf("Holder() = %d, %v, not 0, false", h, is)
		}
		if line := w.l.Line(); len(line) != 0 {
			t.Errorf("Line() = %v, of none", line)
		}
	}
}

// TestP162Ahead: none of the holder, all others of the last one, -1 of who stands not in line.
func TestP162Ahead(t *testing.T) {
	w := fresh(t, 8, enters(5, 0, 7, 2)...)
	for c, want := range []int{1, -1, 3, -1, -1, 0, -1, 2} {
		if n := w.l.Ahead(c); n != want {
			t.Errorf("Ahead(%d) = %d, not %d", c, n, want)
		}
	}
	w.follows(t, leave(5), enter(6), leave(0), enter(5))
	for c, want := range []int{-1, -1, 1, -1, -1, 3, 2, 0} {
		if n := w.l.Ahead(c); n != want {
			t.Errorf("Ahead(%d) = %d, not %d", c, n, want)
		}
	}
	full := fresh(t, 8, enters(3, 1, 4, 0, 5, 2, 6, 7)...)
	for at, c := range []int{3, 1, 4, 0, 5, 2, 6, 7} {
		if n := full.l.Ahead(c); n != at {
			t.Errorf("Ahead(%d) = %d, not %d", c, n, at)
		}
	}
}

// spoil writes over a list, and over its spare room.
func spoil(l []int) {
	l = l[:cap(l)]
	for i := range l {
		l[i] = -999 - i
	}
}

// TestLineIsNewMemory: R4: what is done to a list that was told changes no lock, no copy and no other list; nor does a list change.
func TestLineIsNewMemory(t *testing.T) {
	for _, w := range kinds(t) {
		c := w.copied()
		kept, want := w.l.Line(), w.p.line()
		spoil(w.l.Line())
		spoil(append(w.l.Line(), 1))
		spoil(c.l.Line())
		w.looks(t, "a lock whose list was changed outside")
		c.looks(t, "a copy whose list was changed outside")
		for core := range w.p.cores {
			w.follows(t, enter(core), leave(core))
			spoil(append(w.l.Line(), 1))
			looks(t, "a lock that went on", w.l, w.p)
		}
		c.looks(t, "a copy that stayed")
		if !slices.Equal(kept, want) {
			t.Fatalf("a list became %v, not %v", kept, want)
		}
		w.follows(t, leaves(w.p.line()...)...)
		spoil(w.l.Line())
		w.looks(t, "a lock that all left")
	}
}

// changes are all calls that may change a lock.
func changes(cores int) []call {
	var calls []call
	for c := -1; c <= cores; c++ {
		calls = append(calls, enter(c), leave(c))
	}
	return calls
}

// TestP162CopyGoesItsOwnWay: R7: each change at the one leaves the other as it was; then both change.
func TestP162CopyGoesItsOwnWay(t *testing.T) {
	for _, origin := range kinds(t) {
		all := changes(origin.p.cores)
		for _, a := range all {
			for _, b := range all {
				w := origin.copied()
				c := w.copied()
				looks(t, "a copy", c.l, c.p)
				w.follows(t, a)
				looks(t, "a copy whose original was changed", c.l, c.p)
				c.follows(t, b)
				looks(t, "an original whose copy was changed", w.l, w.p)
				w.follows(t, leaves(w.p.line()...)...)
				looks(t, "a copy whose original all left", c.l, c.p)
				c.follows(t, enter(0), leave(0), enter(0))
				looks(t, "an original whose copy went on", w.l, w.p)
			}
		}
		origin.looks(t, "what was copied")
	}
}

// TestP162CopyHasItsCores: a copy has the cores of its original, and so has a copy of it.
func TestP162CopyHasItsCores(t *testing.T) {
	for cores := 1; cores <= 8; cores++ {
		w := fresh(t, cores, enter(cores-1)).copied().copied()
		w.refuses(t, api.ErrArg, enter(-1), enter(cores), probe(cores), leave(cores))
		w.does(t, leave(cores-1))
		w.does(t, enter(cores-1), cores-1)
	}
}

// TestAskingChangesNothing: what asks may be asked at any time, as often as one will.
func TestAskingChangesNothing(t *testing.T) {
	for _, w := range kinds(t) {
		for range 3 {
			for _, c := range append([]int{0, 1, 2, 3, 4, 5, 6, 7}, strangers...) {
				w.l.Ahead(c)
				w.l.Probe(c)
			}
			w.l.Holder()
			w.l.Line()
			w.l.Copy()
			w.looks(t, "what was asked")
		}
	}
}

// TestRefusedChangesNothing: R2: in each kind of state each call that is refused leaves all as it was.
func TestRefusedChangesNothing(t *testing.T) {
	for _, w := range kinds(t) {
		refused := 0
		for _, c := range changes(w.p.cores) {
			if want := c.ofPlain(w.p.copied()); want.e != api.OK {
				w.refuses(t, want.e, c, c)
				refused++
			}
		}
		if refused < 4 {
			t.Errorf("only %d were refused at %s", refused, w.p.text())
		}
		w.looks(t, "what was refused")
	}
}

// TestAllOfFew: every call at every state of one to five cores.
func TestAllOfFew(t *testing.T) {
	for cores := 1; cores <= 5; cores++ {
		w := fresh(t, cores)
		seen := map[string]int{w.p.text(): 1}
		for work := []*pair{w}; len(work) > 0; work = work[1:] {
			for _, c := range changes(cores) {
				next := work[0].copied()
				next.follows(t, c)
				to := next.p.text()
				if seen[to]++; seen[to] == 1 {
					work = append(work, next)
				}
			}
			work[0].looks(t, "a lock whose copies were changed")
		}
		if want := len(lines(cores)); len(seen) != want {
			t.Errorf("of %d cores there are %d states, not %d", cores, len(seen), want)
		}
	}
}

// row is a row of numbers that is the same at every run.
type row uint64

func (r *row) next(n int) int {
	*r = *r*6364136223846793005 + 1442695040888963407
	return int(*r>>33) % n
}

// call is one of any core, and now and then of none; who holds the lock leaves as often as others come.
func (r *row) call(cores, holder int) call {
	core := r.next(cores)
	switch r.next(12) {
	case 0:
		return enter(strangers[r.next(len(strangers))])
	case 1:
		return leave(strangers[r.next(len(strangers))])
	case 2:
		return leave(core)
	case 3:
		return probe(core)
	case 4, 5, 6, 7:
		return leave(holder)
	}
	return enter(core)
}

// TestManyCalls: whatever calls were done, a lock is as told, and copies of earlier stay.
func TestManyCalls(t *testing.T) {
	at := row(16)
	for cores := 1; cores <= 8; cores++ {
		w := fresh(t, cores)
		var earlier []*pair
		for step := range 3000 {
			holder, _ := w.l.Holder()
			w.follows(t, at.call(cores, holder))
			if step%100 == 50 {
				earlier = append(earlier, w.copied())
			}
			if step%150 == 75 {
				// The copy goes on in its original's place: nothing may tell them apart.
				w = w.copied()
			}
		}
		for _, c := range earlier {
			c.looks(t, "a copy of earlier")
		}
	}
}

// holders are all that Probe says yes of.
func holders(l *lock.Lock, cores int) []int {
	var all []int
	for c := range cores {
		if is, e := l.Probe(c); is && e == api.OK {
			all = append(all, c)
		}
	}
	return all
}

// TestP163 asks of a lock alone: at most one holds it, by Probe as by Holder, and it is held in the order in which cores entered.
func TestP163(t *testing.T) {
	at := row(163)
	for cores := 1; cores <= 8; cores++ {
		l, _ := lock.New(cores)
		var entered, held []int // in their order
		for step := range 5000 {
			holder, _ := l.Holder()
			c := at.call(cores, holder)
			done := c.of(l).e == api.OK
			if c.kind == "Enter" && done {
				entered = append(entered, c.core)
			}
			if c.kind == "Leave" && done {
				held = append(held, c.core)
			}
			now := holders(l, cores)
			h, is := l.Holder()
			if len(now) > 1 || is != (len(now) == 1) || is && now[0] != h {
				t.Fatalf("%d cores, step %d: behind %+v it is held by %v, and by %d, %v", cores, step, c, now, h, is)
			}
			if is != (len(entered) > len(held)) || is && entered[len(held)] != h {
				t.Fatalf("%d cores, step %d: behind %+v it is held by %d, %v; %d have left", cores, step, c, h, is, len(held))
			}
			if n := len(held); n > 0 && held[n-1] != entered[n-1] {
				t.Fatalf("%d cores, step %d: %d left, ahead of %d", cores, step, held[n-1], entered[n-1])
			}
		}
		if len(held) < 500 {
			t.Errorf("%d cores: only %d have left", cores, len(held))
		}
	}
}

// TestP163BehindSome: who stands behind n others holds the lock behind n that leave, not sooner, whoever enters meanwhile.
func TestP163BehindSome(t *testing.T) {
	for cores := 1; cores <= 5; cores++ {
		for _, line := range lines(cores) {
			for n, core := range line {
				for meanwhile := range 3 {
					w := fresh(t, cores, enters(line...)...)
					for left := range n {
						w.tells(t, core, false)
						if ahead := w.l.Ahead(core); ahead != n-left {
							t.Fatalf("line %v: %d have left, and Ahead(%d) = %d", line, left, core, ahead)
						}
						w.follows(t, leave(line[left]))
						enterSome(t, w, line[left], meanwhile)
					}
					w.tells(t, core, true)
					if ahead := w.l.Ahead(core); ahead != 0 {
						t.Fatalf("line %v: all ahead have left, and Ahead(%d) = %d", line, core, ahead)
					}
				}
			}
		}
	}
}

// enterSome lets nobody enter, who has just left, or all that can.
func enterSome(t *testing.T, w *pair, left, meanwhile int) {
	t.Helper()
	switch meanwhile {
	case 1:
		w.follows(t, enter(left))
	case 2:
		for c := range w.p.cores {
			w.follows(t, enter(c))
		}
	}
}

// TestP163LongRow: however often they come, all of eight cores hold the lock by turns.
func TestP163LongRow(t *testing.T) {
	order := []int{3, 0, 7, 5, 1, 6, 2, 4}
	l, _ := lock.New(8)
	for _, c := range order {
		l.Enter(c)
	}
	for turn := range 4000 {
		c := order[turn%8]
		if h, is := l.Holder(); h != c || !is {
			t.Fatalf("turn %d: Holder() = %d, %v, not %d, true", turn, h, is, c)
		}
		if a, b := l.Leave(c), l.Enter(c); a != api.OK || b != api.OK || l.Ahead(c) != 7 {
			t.Fatalf("turn %d: Leave(%d) = %d, Enter = %d, Ahead = %d", turn, c, a, b, l.Ahead(c))
		}
	}
}

// TestOneAnswer: R5: the same calls are answered the same at every run of them.
func TestOneAnswer(t *testing.T) {
	var first string
	for run := range 5 {
		at := row(77)
		l, _ := lock.New(6)
		got := ""
		for range 1000 {
			h, is := l.Holder()
			got += fmt.Sprintln(at.call(6, h).of(l), is, l.Line())
		}
		if run == 0 {
			first = got
		}
		if got != first {
			t.Fatal("another run answered otherwise")
		}
	}
}

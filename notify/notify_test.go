package notify_test

import (
	"fmt"
	"math"
	"slices"
	"testing"

	"buttress/api"
	"buttress/notify"
)

// numbers may all wait; many have the lowest bits of another one.
var numbers = []int{
	0, 1, 2, 5, 63, 64, 255, 1 << 31, 1 << 32, 1<<32 + 5, 1 << 62, math.MaxInt - 1, math.MaxInt,
	-1, -2, -5, -64, -1 << 31, -1 << 32, 5 - 1<<32, math.MinInt, math.MinInt + 1, math.MinInt + 5,
}

const maxWord = math.MaxUint64

// badges are no bit, each bit alone, all bits, all but one, and some.
func badges() []uint64 {
	l := []uint64{0, maxWord, 5, 6, 1<<32 + 1, 0xffffffff, 0xaaaaaaaaaaaaaaaa, 0x5555555555555555}
	for i := range 64 {
		l = append(l, 1<<i, ^uint64(1<<i))
	}
	return l
}

// tells holds what a notification tells to what it should be.
func tells(t *testing.T, what string, n *notify.Notify, w uint64, signalled bool, line ...int) {
	t.Helper()
	if got, is := n.Word(); got != w || is != signalled {
		t.Fatalf("%s: Word() = %#x, %v, not %#x, %v", what, got, is, w, signalled)
	}
	if got := n.Waits(); !slices.Equal(got, line) {
		t.Fatalf("%s: Waits() = %v, not %v", what, got, line)
	}
}

// looks holds all that a notification tells to what it should be, and what a copy gives out until there is nothing more.
func looks(t *testing.T, what string, n *notify.Notify, want plain) {
	t.Helper()
	w, signalled := want.word()
	tells(t, what, n, w, signalled, want.line...)
	tells(t, what, n, w, signalled, want.line...)
	c := n.Copy()
	for i, who := range want.line {
		if got := signal(uint64(i)).of(c); got != gets(who, uint64(i)) {
			t.Fatalf("%s: %d waits, and a copy's Signal answers %+v", what, who, got)
		}
	}
	if got := tryWait(77).of(c); got != (answer{w: w, is: signalled}) {
		t.Fatalf("%s: a copy's Wait answers %+v, not %#x, %v", what, got, w, signalled)
	}
	tells(t, what+", a copy behind the last one", c, 0, false)
	tells(t, what, n, w, signalled, want.line...)
}

// pair is a notification, and what it should be.
type pair struct {
	n *notify.Notify
	p plain
}

func (w *pair) copied() *pair {
	return &pair{w.n.Copy(), w.p}
}

// follows does calls at both, and holds them to each other behind each.
func (w *pair) follows(t *testing.T, calls ...call) {
	t.Helper()
	for _, c := range calls {
		want := c.ofPlain(&w.p)
		if got := c.of(w.n); got != want {
			t.Fatalf("%+v answers %+v, not %+v; then there is %+v", c, got, want, w.p)
		}
		looks(t, fmt.Sprintf("%+v", c), w.n, w.p)
	}
}

// does holds a call to what is told here, beside what follows holds it to.
func (w *pair) does(t *testing.T, c call, want answer) {
	t.Helper()
	if got := c.of(w.n.Copy()); got != want {
		t.Fatalf("%+v of %+v answers %+v, not %+v", c, w.p, got, want)
	}
	w.follows(t, c)
}

// leaves holds a call to what is told here, and to change nothing.
func (w *pair) leaves(t *testing.T, c call, want answer) {
	t.Helper()
	if got := c.of(w.n); got != want {
		t.Fatalf("%+v of %+v answers %+v, not %+v", c, w.p, got, want)
	}
	looks(t, fmt.Sprintf("%+v that changes nothing", c), w.n, w.p)
}

// has is a notification that is signalled with a word.
func (w *pair) has(t *testing.T, word uint64) {
	t.Helper()
	tells(t, "Word", w.n, word, true)
}

// waits is one at which these wait, or nobody, and that is not signalled.
func (w *pair) waits(t *testing.T, line ...int) {
	t.Helper()
	tells(t, "Waits", w.n, 0, false, line...)
}

func fresh(t *testing.T, calls ...call) *pair {
	t.Helper()
	w := &pair{n: notify.New()}
	looks(t, "New", w.n, w.p)
	w.follows(t, calls...)
	return w
}

func signalled(t *testing.T, badges ...uint64) *pair {
	t.Helper()
	w := fresh(t)
	for _, b := range badges {
		w.does(t, signal(b), no)
	}
	return w
}

func waiting(t *testing.T, who ...int) *pair {
	t.Helper()
	w := fresh(t)
	for _, n := range who {
		w.does(t, wait(n), no)
	}
	w.waits(t, who...)
	return w
}

func TestNew(t *testing.T) {
	w := fresh(t)
	w.waits(t)
	for _, n := range numbers {
		w.leaves(t, cancel(n), no)
		w.leaves(t, tryWait(n), no)
	}
	w.follows(t, signal(3))
	fresh(t, wait(2)).waits(t, 2)
	w.has(t, 3)
}

func TestExample(t *testing.T) {
	w := fresh(t)
	w.does(t, signal(1), no)
	w.does(t, signal(4), no)
	w.does(t, wait(9), word(5))
	w.does(t, wait(9), no)
	w.does(t, signal(2), gets(9, 2))
	w.waits(t)
}

func TestP121SignalWhereNobodyWaits(t *testing.T) {
	for _, b := range badges() {
		w := signalled(t, b)
		w.has(t, b)
		w.does(t, tryWait(1), word(b))
		w.waits(t)
	}
}

// TestP121SignalWhereItIsSignalled: bits that were there stay, once, and others come to them.
func TestP121SignalWhereItIsSignalled(t *testing.T) {
	for _, x := range []struct {
		badges []uint64
		word   uint64
	}{
		{[]uint64{0, 0}, 0},
		{[]uint64{0, 5}, 5},
		{[]uint64{5, 0}, 5},
		{[]uint64{5, 5}, 5},
		{[]uint64{5, 5, 5}, 5},
		{[]uint64{6, 3}, 7},
		{[]uint64{5, 4}, 5},
		{[]uint64{4, 5}, 5},
		{[]uint64{5, 10}, 15},
		{[]uint64{1, 2, 4, 8}, 15},
		{[]uint64{8, 0, 1, 8}, 9},
		{[]uint64{1, 1 << 63}, 1<<63 + 1},
		{[]uint64{1 << 63, 1 << 63}, 1 << 63},
		{[]uint64{1 << 31, 1 << 32}, 3 << 31},
		{[]uint64{maxWord, 1}, maxWord},
		{[]uint64{1, maxWord}, maxWord},
		{[]uint64{maxWord, maxWord}, maxWord},
		{[]uint64{maxWord, 0}, maxWord},
		{[]uint64{0xaaaaaaaaaaaaaaaa, 0x5555555555555555}, maxWord},
	} {
		w := signalled(t, x.badges...)
		w.has(t, x.word)
		w.does(t, wait(1), word(x.word))
		w.waits(t)
	}
	for _, a := range badges() {
		for _, b := range badges() {
			w := signalled(t, a, b)
			w.has(t, a|b)
			w.does(t, tryWait(1), word(a|b))
		}
	}
}

// TestP121SignalWhereSomeWait: the first one gets it, and it is not signalled for it.
func TestP121SignalWhereSomeWait(t *testing.T) {
	for _, b := range badges() {
		w := waiting(t, 8)
		w.does(t, signal(b), gets(8, b))
		w.waits(t)
		w.does(t, signal(b), no)
		w.has(t, b)
		w = waiting(t, 8, 3, 5)
		w.does(t, signal(b), gets(8, b))
		w.waits(t, 3, 5)
		w.does(t, signal(1), gets(3, 1))
		w.waits(t, 5)
		w.does(t, signal(^b), gets(5, ^b))
		w.waits(t)
		w.leaves(t, tryWait(8), no)
	}
}

// TestP121SignalOfNoBit: it is signalled by it, though its word is 0; and one that waits gets it.
func TestP121SignalOfNoBit(t *testing.T) {
	w := signalled(t, 0)
	w.has(t, 0)
	w.copied().does(t, tryWait(1), word(0))
	w.does(t, wait(1), word(0))
	w.waits(t)
	w.does(t, wait(1), no)
	w.does(t, signal(0), gets(1, 0))
	w.waits(t)
	w = waiting(t, 0, 1)
	w.does(t, signal(0), gets(0, 0))
	w.waits(t, 1)
}

// TestP122WaitWhereItIsSignalled: who comes gets the word, whether it would wait or not, and does not wait.
func TestP122WaitWhereItIsSignalled(t *testing.T) {
	for _, f := range []func(int) call{wait, tryWait} {
		for _, b := range badges() {
			w := signalled(t, b)
			w.does(t, f(1), word(b))
			w.waits(t)
			w.leaves(t, cancel(1), no)
			w.leaves(t, tryWait(1), no)
			w.leaves(t, tryWait(2), no)
			// Nothing is left of the word that was got.
			w.does(t, signal(2), no)
			w.has(t, 2)
			w.does(t, f(1), word(2))
		}
	}
}

func TestP122WaitWhereItIsNot(t *testing.T) {
	w := fresh(t)
	w.leaves(t, tryWait(1), no)
	w.leaves(t, tryWait(1), no)
	w.does(t, wait(1), no)
	w.waits(t, 1)
}

// TestP122WaitWhereOthersWait: it gets none, and waits behind all, if it will.
func TestP122WaitWhereOthersWait(t *testing.T) {
	for many := 1; many <= 5; many++ {
		who := []int{9, 7, 8, -6, 4}[:many]
		w := waiting(t, who...)
		w.leaves(t, tryWait(1), no)
		w.does(t, wait(1), no)
		line := slices.Concat(who, []int{1})
		w.waits(t, line...)
		for i, n := range line {
			w.does(t, signal(1<<i), gets(n, 1<<i))
		}
		w.waits(t)
	}
}

// TestP122There: who waits there, first, in the middle, last or alone, is refused, whether it would wait or not.
func TestP122There(t *testing.T) {
	for _, who := range [][]int{{4}, {4, 9}, {4, 9, 2}, {2, 0, 7, -1}, numbers} {
		w := waiting(t, who...)
		for _, n := range who {
			w.leaves(t, wait(n), there)
			w.leaves(t, tryWait(n), there)
		}
		w.waits(t, who...)
	}
}

// TestP122Again: who got a word, or was let go, is not there any more, and may wait again, behind all.
func TestP122Again(t *testing.T) {
	for _, f := range []func(int) call{wait, tryWait} {
		w := signalled(t, 6)
		w.does(t, f(4), word(6))
		w.leaves(t, tryWait(4), no)
		w.does(t, wait(4), no)
		w.leaves(t, f(4), there)
	}
	for _, c := range []call{signal(3), cancel(4)} {
		w := waiting(t, 4, 2)
		w.follows(t, c)
		w.leaves(t, tryWait(4), no)
		w.does(t, wait(4), no)
		w.waits(t, 2, 4)
		w.does(t, signal(1), gets(2, 1))
		w.does(t, signal(8), gets(4, 8))
		w.does(t, signal(16), no)
		w.does(t, wait(4), word(16))
	}
}

// TestAnyNumbers: whoever it is, it waits, gets a word, and is told from every other one.
func TestAnyNumbers(t *testing.T) {
	everyone := waiting(t, numbers...)
	for i, n := range numbers {
		everyone.does(t, signal(uint64(i)), gets(n, uint64(i)))
	}
	for _, a := range numbers {
		signalled(t, maxWord).does(t, wait(a), word(maxWord))
		signalled(t, 0).does(t, tryWait(a), word(0))
		for _, b := range numbers {
			if a == b {
				continue
			}
			w := waiting(t, a)
			w.leaves(t, cancel(b), no)
			w.leaves(t, tryWait(b), no)
			w.does(t, wait(b), no)
			w.waits(t, a, b)
			w.copied().does(t, signal(7), gets(a, 7))
			w.does(t, cancel(a), yes)
			w.waits(t, b)
		}
	}
}

func TestP123Cancel(t *testing.T) {
	for many := 1; many <= 5; many++ {
		who := []int{7, 2, -3, math.MaxInt, 0}[:many]
		for i, n := range who {
			w := waiting(t, who...)
			w.does(t, cancel(n), yes)
			rest := slices.Concat(who[:i], who[i+1:])
			w.waits(t, rest...)
			w.leaves(t, cancel(n), no)
			for _, r := range rest {
				w.does(t, signal(5), gets(r, 5))
			}
			w.does(t, signal(6), no)
			w.has(t, 6)
		}
		w := waiting(t, who...)
		for _, n := range []int{1, -1, 3, math.MinInt, 7 + 1<<32, 2 - 1<<32} {
			w.leaves(t, cancel(n), no)
		}
		for i := range who {
			w.does(t, cancel(who[many-1-i]), yes)
		}
		w.waits(t)
	}
}

// TestP123CancelWhereItIsSignalled: nobody waits there, and the word stays.
func TestP123CancelWhereItIsSignalled(t *testing.T) {
	for _, b := range []uint64{0, 1, maxWord} {
		w := signalled(t, b)
		for _, n := range numbers {
			w.leaves(t, cancel(n), no)
		}
		w.has(t, b)
	}
}

// TestP123CancelOfOneThatGotAWord: it does not wait any more; nor does who would not wait.
func TestP123CancelOfOneThatGotAWord(t *testing.T) {
	w := waiting(t, 1, 2, 3)
	w.does(t, signal(5), gets(1, 5))
	w.leaves(t, cancel(1), no)
	w.waits(t, 2, 3)
	w.leaves(t, tryWait(1), no)
	w.leaves(t, cancel(1), no)
	w = signalled(t, 9)
	w.does(t, wait(1), word(9))
	w.leaves(t, cancel(1), no)
	w.does(t, signal(9), no)
	w.does(t, tryWait(1), word(9))
	w.leaves(t, cancel(1), no)
}

// TestP123Word: the word goes when it is got, and is none while some wait.
func TestP123Word(t *testing.T) {
	w := fresh(t)
	tells(t, "New", w.n, 0, false)
	w.follows(t, signal(6))
	tells(t, "signalled", w.n, 6, true)
	w.follows(t, tryWait(1))
	tells(t, "got", w.n, 0, false)
	w.follows(t, wait(1))
	tells(t, "one waits", w.n, 0, false, 1)
	w.follows(t, wait(2))
	tells(t, "two wait", w.n, 0, false, 1, 2)
	w.follows(t, signal(3))
	tells(t, "one got a badge", w.n, 0, false, 2)
	w.follows(t, cancel(2))
	tells(t, "the last one was cancelled", w.n, 0, false)
	w.follows(t, signal(0))
	tells(t, "signalled with no bit", w.n, 0, true)
}

// TestP123WaitsBehindTheLast: however the last one went, nobody waits, and nothing is signalled.
func TestP123WaitsBehindTheLast(t *testing.T) {
	for _, last := range []call{signal(0), signal(7), cancel(4)} {
		for _, ahead := range [][]call{nil, {wait(1), cancel(1)}, {wait(1), signal(1)}, {signal(1), wait(4)}} {
			w := fresh(t, ahead...)
			w.follows(t, wait(4), last)
			w.waits(t)
			w.copied().does(t, wait(2), no)
			w.does(t, signal(2), no)
			w.has(t, 2)
		}
	}
}

// overwrite puts other numbers into a list, and into the room behind it.
func overwrite(l []int) {
	l = l[:cap(l)]
	for i := range l {
		l[i] = -999 - i
	}
}

// TestWaitsIsNewMemory: what is done to a list that was told changes no notification, no copy and no other list; nor does a list change.
func TestWaitsIsNewMemory(t *testing.T) {
	for many := range 10 {
		var who []int
		for n := range many {
			who = append(who, 20-n)
		}
		w := waiting(t, who...)
		c := w.copied()
		kept := w.n.Waits()
		overwrite(w.n.Waits())
		overwrite(append(w.n.Waits(), 1, 2, 3))
		overwrite(c.n.Waits())
		looks(t, "a notification whose list was changed outside", w.n, w.p)
		looks(t, "a copy whose list was changed outside", c.n, c.p)
		w.follows(t, wait(100), signal(1), cancel(18), wait(101), wait(102))
		overwrite(append(w.n.Waits(), 1, 2, 3))
		looks(t, "a notification that went on", w.n, w.p)
		looks(t, "a copy that stayed", c.n, c.p)
		if !slices.Equal(kept, who) {
			t.Fatalf("a list became %v, not %v", kept, who)
		}
		for range many {
			w.follows(t, signal(4))
		}
		overwrite(w.n.Waits())
		w.follows(t, wait(103), wait(104))
	}
}

// states are notifications in each kind of state.
func states(t *testing.T) []*pair {
	t.Helper()
	l := []*pair{fresh(t), signalled(t, 0), signalled(t, 6), signalled(t, maxWord), waiting(t, 1), waiting(t, 1, 2, 3), waiting(t, numbers...)}
	// These had more, so that there may be room behind those that wait, and ahead of them.
	had := waiting(t, 21, 22, 1, 2, 3, 23)
	had.follows(t, signal(1), signal(2), cancel(23))
	gone := waiting(t, 21, 22, 23)
	gone.follows(t, cancel(22), signal(1), signal(2))
	return append(l, had, gone)
}

// TestP123CopyGoesItsOwnWay: each change at the one leaves the other as it was; then both change.
func TestP123CopyGoesItsOwnWay(t *testing.T) {
	changes := []call{signal(0), signal(9), wait(50), tryWait(50), wait(51), cancel(1), cancel(2), cancel(3)}
	for _, origin := range states(t) {
		for _, a := range changes {
			for _, b := range changes {
				w := origin.copied()
				c := w.copied()
				looks(t, "a copy", c.n, c.p)
				w.follows(t, a)
				looks(t, "a copy whose original was changed", c.n, c.p)
				c.follows(t, b)
				looks(t, "an original whose copy was changed", w.n, w.p)
				w.follows(t, wait(60), wait(61), wait(62))
				c.follows(t, wait(70), wait(71), signal(16), wait(72))
				looks(t, "an original whose copy went on", w.n, w.p)
			}
		}
		looks(t, "what was copied", origin.n, origin.p)
	}
}

// TestAskingChangesNothing: Word, Waits and Copy may be asked at any time, as often as one will.
func TestAskingChangesNothing(t *testing.T) {
	for _, w := range states(t) {
		for range 3 {
			w.n.Word()
			w.n.Waits()
			w.n.Copy()
			looks(t, "what was asked", w.n, w.p)
		}
	}
}

// TestRefusedChangesNothing: R2 and R3, in each kind of state: beside an error, and beside a no, all is zero, and stays.
func TestRefusedChangesNothing(t *testing.T) {
	for _, w := range states(t) {
		for _, n := range w.p.line {
			w.leaves(t, wait(n), there)
			w.leaves(t, tryWait(n), there)
		}
		w.leaves(t, cancel(5000), no)
		if _, is := w.p.word(); !is {
			w.leaves(t, tryWait(5000), no)
		}
	}
}

// TestAllOfFour: every call at every state of four that wait and words of two bits.
func TestAllOfFour(t *testing.T) {
	calls := []call{signal(0), signal(1), signal(2), signal(3)}
	for who := range 4 {
		calls = append(calls, wait(who), tryWait(who), cancel(who))
	}
	w := fresh(t)
	seen := map[string]int{w.p.text(): 1}
	for work := []*pair{w}; len(work) > 0; work = work[1:] {
		for _, c := range calls {
			next := work[0].copied()
			next.follows(t, c)
			to := next.p.text()
			if seen[to]++; seen[to] == 1 {
				work = append(work, next)
			}
		}
		looks(t, "a notification whose copies were changed", work[0].n, work[0].p)
	}
	// Nobody waits, with one of four words or with none; or one to all of four wait, in an order.
	words, lines := 4+1, 4+4*3+4*3*2+4*3*2
	if len(seen) != words+lines {
		t.Errorf("there are %d states, not %d", len(seen), words+lines)
	}
}

// row is a row of numbers that is the same at every run.
type row uint64

func (r *row) next(n int) int {
	*r = *r*6364136223846793005 + 1442695040888963407
	return int(*r>>33) % n
}

// badge has no bit, one, or some, or all.
func (r *row) badge() uint64 {
	switch r.next(8) {
	case 0:
		return 0
	case 1:
		return maxWord
	case 2:
		return uint64(r.next(1<<30)) << r.next(35)
	}
	return 1 << r.next(64)
}

// call is one of many's; now those that wait are more, now the signals.
func (r *row) call(many, step int) call {
	who, kind := r.next(many), r.next(10)
	if r.next(15) == 0 {
		who = numbers[r.next(len(numbers))]
	}
	if step/(3*many)%2 == 1 && kind < 8 {
		kind = 7 - kind
	}
	switch kind {
	case 0, 1, 2, 3:
		return signal(r.badge())
	case 4, 5, 6:
		return wait(who)
	case 7:
		return tryWait(who)
	}
	return cancel(who)
}

// TestManyCalls: whatever calls were done, a notification is as told, and copies of earlier stay.
func TestManyCalls(t *testing.T) {
	at := row(12)
	for many := 2; many <= 40; many += 7 {
		w := fresh(t)
		var earlier []*pair
		for step := range 2000 {
			w.follows(t, at.call(many, step))
			if step%100 == 50 {
				earlier = append(earlier, w.copied())
			}
			if step%150 == 75 {
				// The copy goes on in its original's place: nothing may tell them apart.
				w = w.copied()
			}
		}
		for _, c := range earlier {
			looks(t, "a copy of earlier", c.n, c.p)
		}
	}
}

// TestP124 asks of a notification alone, bit by bit: those that were signalled and that nobody got yet are its word, and who gets a word gets all of these and no other.
func TestP124(t *testing.T) {
	at, n := row(124), notify.New()
	var open [64]int // how often each bit was signalled since somebody got it
	given, kept := 0, 0
	for step := range 30000 {
		c := at.call(20, step)
		got := c.of(n)
		if c.kind == "Signal" {
			for i := range open {
				open[i] += int(c.badge >> i & 1)
			}
		}
		if c.kind != "Cancel" && got.is {
			for i := range open {
				if got.w>>i&1 == 1 != (open[i] > 0) {
					t.Fatalf("step %d: %+v answers %+v, and bit %d was signalled %d times", step, c, got, i, open[i])
				}
			}
			open = [64]int{}
			given++
		}
		w, signalled := n.Word()
		for i := range open {
			if w>>i&1 == 1 != (open[i] > 0) {
				t.Fatalf("step %d: behind %+v the word is %#x, and bit %d was signalled %d times", step, c, w, i, open[i])
			}
		}
		if signalled {
			kept++
		}
		if signalled && len(n.Waits()) > 0 {
			t.Fatalf("step %d: behind %+v it is signalled, and %v wait", step, c, n.Waits())
		}
	}
	if given < 2000 || kept < 2000 {
		t.Errorf("only %d got a word, and only %d times one was there", given, kept)
	}
}

// TestP124EachBitOnce: whoever comes in whichever order, each bit that is signalled once is got by one, once.
func TestP124EachBitOnce(t *testing.T) {
	for waitsAhead := range 65 {
		n := notify.New()
		for who := range waitsAhead {
			n.Wait(who, true)
		}
		for i := range 64 {
			who, w, is := n.Signal(1 << i)
			want := no
			if i < waitsAhead {
				want = gets(i, 1<<i)
			}
			if got := (answer{who: who, w: w, is: is}); got != want {
				t.Fatalf("%d wait: Signal of bit %d answers %+v, not %+v", waitsAhead, i, got, want)
			}
		}
		rest := ^(uint64(1)<<waitsAhead - 1) // at 64 the shift leaves 0, and so no rest
		if w, is, e := n.Wait(-1, true); w != rest || is != (waitsAhead < 64) || e != api.OK {
			t.Fatalf("%d wait: then Wait = %#x, %v, %d, not %#x", waitsAhead, w, is, e, rest)
		}
	}
}

// TestInTheirOrder: as many as there are, those that wait get badges one behind another, whatever others come and go between, each once.
func TestInTheirOrder(t *testing.T) {
	const many = 300
	n := notify.New()
	for i := range many {
		n.Wait(i, true)
	}
	for i := range many {
		n.Wait(many+i, true)
		n.Wait(-1-i, true)
		if !n.Cancel(-1 - i) {
			t.Fatalf("Cancel(%d) = no", -1-i)
		}
		if who, w, is := n.Signal(uint64(i)); who != i || w != uint64(i) || !is {
			t.Fatalf("Signal %d = %d, %d, %v", i, who, w, is)
		}
	}
	if l := n.Waits(); len(l) != many || l[0] != many || l[many-1] != 2*many-1 || !slices.IsSorted(l) {
		t.Errorf("Waits() = %v", l)
	}
}

// TestOneAnswer: the same calls are answered the same at every run of them.
func TestOneAnswer(t *testing.T) {
	var first []answer
	for run := range 5 {
		at, n := row(77), notify.New()
		var got []answer
		for step := range 2000 {
			got = append(got, at.call(20, step).of(n))
		}
		if run == 0 {
			first = got
		}
		if !slices.Equal(got, first) {
			t.Fatal("another run answered otherwise")
		}
	}
}

package endpoint_test

import (
	"fmt"
	"math"
	"slices"
	"testing"

	"buttress/api"
	"buttress/endpoint"
)

// numbers may all wait; many have the lowest bits of another one.
var numbers = []int{
	0, 1, 2, 3, 7, 63, 64, 255, 256, 1 << 31, 1 << 32, 1<<32 + 7, 1 << 62, math.MaxInt - 1, math.MaxInt,
	-1, -2, -7, -64, -256, -1 << 31, -1 << 32, 7 - 1<<32, math.MinInt, math.MinInt + 1, math.MinInt + 7,
}

const maxWord = math.MaxUint64

// messages are those whose fields are each 0 and as great as they can be, and as small, one by one and all at once.
var messages = []api.Msg{
	{},
	{Label: math.MaxInt}, {Label: math.MinInt}, {Label: -1},
	{W: [4]uint64{0: maxWord}}, {W: [4]uint64{1: maxWord}}, {W: [4]uint64{2: maxWord}}, {W: [4]uint64{3: maxWord}},
	{Badge: maxWord}, {Badge: 1 << 63}, {Badge: 1 << 32},
	{Calls: true},
	{Label: math.MaxInt, W: [4]uint64{maxWord, maxWord, maxWord, maxWord}, Badge: maxWord, Calls: true},
	{Label: math.MaxInt, W: [4]uint64{maxWord, maxWord, maxWord, maxWord}, Badge: maxWord},
	{Label: math.MaxInt, W: [4]uint64{maxWord, maxWord, maxWord, maxWord}, Calls: true},
	{Label: math.MaxInt, W: [4]uint64{1, 2, 3, maxWord}, Badge: 7, Calls: true},
	{W: [4]uint64{4, 3, 2, 1}, Badge: 7, Calls: true},
}

// msg is a message that tells its number in each field, with a badge.
func msg(n int, badge uint64) api.Msg {
	u := uint64(n)
	return api.Msg{Label: n, W: [4]uint64{u + 1, u + 2, u + 3, u + 4}, Badge: badge, Calls: n%2 == 1}
}

// looks holds all that an endpoint tells to what it should be: who waits, whether they send, and what a copy's messages are when all are met.
func looks(t *testing.T, what string, p *endpoint.Endpoint, want plain) {
	t.Helper()
	l, sends := want.waits()
	waits(t, what, p, sends, l...)
	waits(t, what, p, sends, l...)
	free := 0
	for want.has(free) {
		free++
	}
	c := p.Copy()
	for _, x := range want.send {
		if m, e := c.Recv(free, false); m != (api.Met{Is: true, From: x.who, To: free, M: x.m}) || e != api.OK {
			t.Fatalf("%s: %v waits, and a copy's Recv = %+v, %d", what, x, m, e)
		}
	}
	m := msg(99, 98)
	for _, who := range want.recv {
		if got, e := c.Send(free, m, false); got != (api.Met{Is: true, From: free, To: who, M: m}) || e != api.OK {
			t.Fatalf("%s: %d waits, and a copy's Send = %+v, %d", what, who, got, e)
		}
	}
	waits(t, what+", a copy behind the last one", c, false)
	waits(t, what, p, sends, l...)
}

func waits(t *testing.T, what string, p *endpoint.Endpoint, wantSends bool, want ...int) {
	t.Helper()
	if l, sends := p.Waits(); !slices.Equal(l, want) || sends != wantSends {
		t.Fatalf("%s: Waits() = %v, %v, not %v, %v", what, l, sends, want, wantSends)
	}
}

// pair is an endpoint, and what it should be.
type pair struct {
	k *endpoint.Endpoint
	p plain
}

func (w *pair) copied() *pair {
	return &pair{w.k.Copy(), w.p}
}

// follows does calls at both, and holds them to each other behind each.
func (w *pair) follows(t *testing.T, calls ...call) {
	t.Helper()
	for _, c := range calls {
		want := c.ofPlain(&w.p)
		if got := c.of(w.k); got != want {
			t.Fatalf("%v answers %+v, not %+v; then there is %+v", c, got, want, w.p)
		}
		looks(t, fmt.Sprint(c), w.k, w.p)
	}
}

// does holds a call to what is told here, beside what follows holds it to.
func (w *pair) does(t *testing.T, c call, want answer) {
	t.Helper()
	if got := c.of(w.k.Copy()); got != want {
		t.Fatalf("%v of %+v answers %+v, not %+v", c, w.p, got, want)
	}
	w.follows(t, c)
}

// leaves holds a call to what is told here, and to change nothing.
func (w *pair) leaves(t *testing.T, c call, want answer) {
	t.Helper()
	if got := c.of(w.k); got != want {
		t.Fatalf("%v of %+v answers %+v, not %+v", c, w.p, got, want)
	}
	looks(t, fmt.Sprint(c, " that changes nothing"), w.k, w.p)
}

func (w *pair) waits(t *testing.T, sends bool, l ...int) {
	t.Helper()
	waits(t, "Waits", w.k, sends, l...)
}

func fresh(t *testing.T, calls ...call) *pair {
	t.Helper()
	w := &pair{k: endpoint.New()}
	looks(t, "New", w.k, w.p)
	w.follows(t, calls...)
	return w
}

// sending is an endpoint at which these wait to send: who each is, and its message has a badge of its own.
func sending(t *testing.T, who ...int) *pair {
	t.Helper()
	w := fresh(t)
	for i, n := range who {
		w.does(t, send(n, msg(i, uint64(i+1))), nobody)
	}
	w.waits(t, len(who) > 0, who...)
	return w
}

func receiving(t *testing.T, who ...int) *pair {
	t.Helper()
	w := fresh(t)
	for _, n := range who {
		w.does(t, recv(n), nobody)
	}
	w.waits(t, false, who...)
	return w
}

// badged is an endpoint at which those of numbers 10 and on wait to send, with these badges.
func badged(t *testing.T, badges ...uint64) *pair {
	t.Helper()
	w := fresh(t)
	for i, b := range badges {
		w.does(t, send(10+i, msg(i, b)), nobody)
	}
	return w
}

func TestNew(t *testing.T) {
	w := fresh(t)
	w.waits(t, false)
	for _, n := range numbers {
		w.leaves(t, cancel(n), no)
		w.leaves(t, badge(uint64(n)), gone())
	}
	w.follows(t, send(1, msg(1, 1)))
	other := fresh(t)
	other.follows(t, recv(2))
	w.waits(t, true, 1)
}

func TestExample(t *testing.T) {
	m := msg(3, 4)
	w := fresh(t)
	w.does(t, recv(1), nobody)
	w.does(t, recv(2), nobody)
	w.does(t, trySend(3, m), met(3, 1, m))
	w.does(t, send(4, m), met(4, 2, m))
	w.does(t, send(5, m), nobody)
	w.does(t, tryRecv(6), met(5, 6, m))
	w.waits(t, false)
}

func TestP111SendWhereNobodyWaits(t *testing.T) {
	w := fresh(t)
	w.leaves(t, trySend(1, msg(1, 5)), nobody)
	w.does(t, send(1, msg(1, 5)), nobody)
	w.waits(t, true, 1)
	w.does(t, tryRecv(2), met(1, 2, msg(1, 5)))
}

// TestP111SendWhereSomeSend: it meets nobody, and waits behind all, if it will.
func TestP111SendWhereSomeSend(t *testing.T) {
	for many := 1; many <= 5; many++ {
		var who []int
		for n := range many {
			who = append(who, 9-n)
		}
		w := sending(t, who...)
		w.leaves(t, trySend(1, msg(50, 51)), nobody)
		w.does(t, send(1, msg(50, 51)), nobody)
		w.waits(t, true, append(who, 1)...)
		for i, n := range who {
			w.does(t, tryRecv(1000), met(n, 1000, msg(i, uint64(i+1))))
		}
		w.does(t, tryRecv(1000), met(1, 1000, msg(50, 51)))
		w.waits(t, false)
	}
}

// TestP111SendWhereSomeReceive: it meets the first one of them, whether it would wait or not, and does not wait itself.
func TestP111SendWhereSomeReceive(t *testing.T) {
	for _, f := range []func(int, api.Msg) call{send, trySend} {
		w := receiving(t, 8, 3, 5)
		w.does(t, f(1, msg(1, 7)), met(1, 8, msg(1, 7)))
		w.waits(t, false, 3, 5)
		w.does(t, f(1, msg(2, 7)), met(1, 3, msg(2, 7)))
		w.waits(t, false, 5)
		w.does(t, f(8, msg(3, 0)), met(8, 5, msg(3, 0)))
		w.waits(t, false)
		w.leaves(t, trySend(1, msg(4, 7)), nobody)
		w.does(t, send(1, msg(4, 7)), nobody)
		w.waits(t, true, 1)
	}
}

// TestP111There: who waits there, to send or to receive, first, in the middle, last or alone, is refused ahead of all else.
func TestP111There(t *testing.T) {
	for _, who := range [][]int{{4}, {4, 9}, {4, 9, 2}, {2, 0, 7, -1}} {
		for _, w := range []*pair{sending(t, who...), receiving(t, who...)} {
			for _, n := range who {
				for _, m := range messages {
					w.leaves(t, send(n, m), there)
					w.leaves(t, trySend(n, m), there)
				}
			}
			l, sends := w.p.waits()
			w.waits(t, sends, l...)
		}
	}
}

func TestP112RecvWhereNobodyWaits(t *testing.T) {
	w := fresh(t)
	w.leaves(t, tryRecv(1), nobody)
	w.does(t, recv(1), nobody)
	w.waits(t, false, 1)
	w.does(t, trySend(2, msg(1, 5)), met(2, 1, msg(1, 5)))
}

// TestP112RecvWhereSomeReceive: it meets nobody, and waits behind all, if it will.
func TestP112RecvWhereSomeReceive(t *testing.T) {
	for many := 1; many <= 5; many++ {
		var who []int
		for n := range many {
			who = append(who, 9-n)
		}
		w := receiving(t, who...)
		w.leaves(t, tryRecv(1), nobody)
		w.does(t, recv(1), nobody)
		w.waits(t, false, append(who, 1)...)
		for i, n := range append(who, 1) {
			w.does(t, trySend(1000, msg(i, 3)), met(1000, n, msg(i, 3)))
		}
		w.waits(t, false)
	}
}

// TestP112RecvWhereSomeSend: it meets the first one of them, with its message, whether it would wait or not, and does not wait itself.
func TestP112RecvWhereSomeSend(t *testing.T) {
	for _, f := range []func(int) call{recv, tryRecv} {
		w := sending(t, 8, 3, 5)
		w.does(t, f(1), met(8, 1, msg(0, 1)))
		w.waits(t, true, 3, 5)
		w.does(t, f(1), met(3, 1, msg(1, 2)))
		w.waits(t, true, 5)
		w.does(t, f(8), met(5, 8, msg(2, 3)))
		w.waits(t, false)
		w.leaves(t, tryRecv(1), nobody)
		w.does(t, recv(1), nobody)
		w.waits(t, false, 1)
	}
}

func TestP112There(t *testing.T) {
	for _, who := range [][]int{{4}, {4, 9}, {4, 9, 2}, {2, 0, 7, -1}} {
		for _, w := range []*pair{sending(t, who...), receiving(t, who...)} {
			for _, n := range who {
				w.leaves(t, recv(n), there)
				w.leaves(t, tryRecv(n), there)
			}
		}
	}
}

// TestAgain: who met, or was let go, is not there any more, and may wait again, to send or to receive.
func TestAgain(t *testing.T) {
	m := msg(1, 2)
	for _, c := range []call{tryRecv(9), recv(9), cancel(4), badge(1)} {
		w := sending(t, 4)
		w.follows(t, c)
		w.waits(t, false)
		w.copied().does(t, send(4, m), nobody)
		w.copied().does(t, recv(4), nobody)
		w.copied().leaves(t, trySend(4, m), nobody)
		w.copied().leaves(t, tryRecv(4), nobody)
	}
	for _, c := range []call{trySend(9, m), send(9, m), cancel(4)} {
		w := receiving(t, 4)
		w.follows(t, c)
		w.waits(t, false)
		w.copied().does(t, send(4, m), nobody)
		w.copied().does(t, recv(4), nobody)
		w.copied().leaves(t, trySend(4, m), nobody)
		w.copied().leaves(t, tryRecv(4), nobody)
	}
}

// TestAnyNumbers: whoever it is, it waits, meets, and is told from every other one.
func TestAnyNumbers(t *testing.T) {
	everyone := sending(t, numbers...)
	for i, n := range numbers {
		everyone.does(t, tryRecv(1000), met(n, 1000, msg(i, uint64(i+1))))
	}
	everyone = receiving(t, numbers...)
	for i, n := range numbers {
		everyone.does(t, trySend(1000, msg(i, 1)), met(1000, n, msg(i, 1)))
	}
	for _, a := range numbers {
		for _, b := range numbers {
			if a == b {
				continue
			}
			w := sending(t, a)
			w.leaves(t, cancel(b), no)
			w.copied().does(t, send(b, msg(9, 9)), nobody)
			w.copied().does(t, tryRecv(b), met(a, b, msg(0, 1)))
			w.does(t, cancel(a), yes)
			w = receiving(t, a)
			w.leaves(t, cancel(b), no)
			w.copied().does(t, recv(b), nobody)
			w.copied().does(t, trySend(b, msg(9, 9)), met(b, a, msg(9, 9)))
			w.does(t, cancel(a), yes)
		}
	}
}

// TestAnyMessages: a message comes as it was sent, whoever of the two came first.
func TestAnyMessages(t *testing.T) {
	w := fresh(t)
	for _, m := range messages {
		w.does(t, send(1, m), nobody)
		w.does(t, tryRecv(2), met(1, 2, m))
		w.does(t, recv(2), nobody)
		w.does(t, trySend(1, m), met(1, 2, m))
	}
	for i, m := range messages {
		w.does(t, send(i, m), nobody)
	}
	for i, m := range messages {
		w.does(t, tryRecv(-5), met(i, -5, m))
	}
	for _, n := range []int{math.MinInt, math.MaxInt} {
		for _, m := range messages {
			w.does(t, send(n, m), nobody)
			w.does(t, recv(^n), met(n, ^n, m))
			w.does(t, recv(^n), nobody)
			w.does(t, send(n, m), met(n, ^n, m))
		}
	}
}

func TestP113Cancel(t *testing.T) {
	for _, lined := range []func(*testing.T, ...int) *pair{sending, receiving} {
		for many := 1; many <= 5; many++ {
			who := []int{7, 2, -3, math.MaxInt, 0}[:many]
			for i, n := range who {
				w := lined(t, who...)
				_, sends := w.p.waits()
				w.does(t, cancel(n), yes)
				w.waits(t, sends && many > 1, slices.Concat(who[:i], who[i+1:])...)
				w.leaves(t, cancel(n), no)
			}
			w := lined(t, who...)
			for _, n := range []int{1, -1, 3, 4, math.MinInt, 7 + 1<<32, 2 - 1<<32} {
				w.leaves(t, cancel(n), no)
			}
			for i := range who {
				w.does(t, cancel(who[many-1-i]), yes)
			}
			w.waits(t, false)
		}
	}
}

// TestP113CancelOfOneThatMet: neither who waited nor who came waits any more; nor does who would not wait.
func TestP113CancelOfOneThatMet(t *testing.T) {
	w := sending(t, 1, 2)
	w.does(t, recv(3), met(1, 3, msg(0, 1)))
	w.leaves(t, cancel(1), no)
	w.leaves(t, cancel(3), no)
	w.does(t, recv(3), met(2, 3, msg(1, 2)))
	w.leaves(t, cancel(2), no)
	w.leaves(t, cancel(3), no)
	w = receiving(t, 1, 2)
	w.does(t, send(3, msg(5, 5)), met(3, 1, msg(5, 5)))
	w.leaves(t, cancel(1), no)
	w.leaves(t, cancel(3), no)
	w.does(t, send(3, msg(5, 5)), met(3, 2, msg(5, 5)))
	w.leaves(t, cancel(2), no)
	w.leaves(t, cancel(3), no)
	w.leaves(t, trySend(4, msg(5, 5)), nobody)
	w.leaves(t, cancel(4), no)
	w.leaves(t, tryRecv(4), nobody)
	w.leaves(t, cancel(4), no)
}

// TestP113CancelLetsTheNextBeFirst: a message that was cancelled meets nobody.
func TestP113CancelLetsTheNextBeFirst(t *testing.T) {
	w := sending(t, 1, 2, 3)
	w.does(t, cancel(1), yes)
	w.does(t, tryRecv(9), met(2, 9, msg(1, 2)))
	w.does(t, send(1, msg(20, 21)), nobody)
	w.waits(t, true, 3, 1)
	w.does(t, tryRecv(9), met(3, 9, msg(2, 3)))
	w.does(t, tryRecv(9), met(1, 9, msg(20, 21)))
	w = receiving(t, 1, 2, 3)
	w.does(t, cancel(1), yes)
	w.does(t, trySend(9, msg(1, 1)), met(9, 2, msg(1, 1)))
	w.does(t, recv(1), nobody)
	w.waits(t, false, 3, 1)
}

func TestP113Badge(t *testing.T) {
	for _, x := range []struct {
		badges    []uint64
		b         uint64
		out, rest []int
	}{
		{nil, 5, nil, nil},
		{nil, 0, nil, nil},
		{[]uint64{5}, 5, []int{10}, nil},
		{[]uint64{5}, 4, nil, []int{10}},
		{[]uint64{5}, 0, nil, []int{10}},
		{[]uint64{0}, 0, []int{10}, nil},
		{[]uint64{0}, 5, nil, []int{10}},
		{[]uint64{1, 2, 3}, 4, nil, []int{10, 11, 12}},
		{[]uint64{1, 2, 3}, 1, []int{10}, []int{11, 12}},
		{[]uint64{1, 2, 3}, 2, []int{11}, []int{10, 12}},
		{[]uint64{1, 2, 3}, 3, []int{12}, []int{10, 11}},
		{[]uint64{1, 0, 3}, 0, []int{11}, []int{10, 12}},
		{[]uint64{1, 2, 1, 2, 1}, 1, []int{10, 12, 14}, []int{11, 13}},
		{[]uint64{1, 2, 1, 2, 1}, 2, []int{11, 13}, []int{10, 12, 14}},
		{[]uint64{0, 0, 3, 3, 0}, 0, []int{10, 11, 14}, []int{12, 13}},
		{[]uint64{0, 0, 3, 3, 0}, 3, []int{12, 13}, []int{10, 11, 14}},
		{[]uint64{7, 7, 7}, 7, []int{10, 11, 12}, nil},
		{[]uint64{0, 0, 0}, 0, []int{10, 11, 12}, nil},
		{[]uint64{maxWord, 1 << 63, maxWord >> 1, 1<<32 + 5, 5}, maxWord, []int{10}, []int{11, 12, 13, 14}},
		{[]uint64{maxWord, 1 << 63, maxWord >> 1, 1<<32 + 5, 5}, 1 << 63, []int{11}, []int{10, 12, 13, 14}},
		{[]uint64{maxWord, 1 << 63, maxWord >> 1, 1<<32 + 5, 5}, 5, []int{14}, []int{10, 11, 12, 13}},
		{[]uint64{maxWord, 1 << 63, maxWord >> 1, 1<<32 + 5, 5}, 1<<32 + 5, []int{13}, []int{10, 11, 12, 14}},
		{[]uint64{maxWord, 1 << 63, maxWord >> 1, 1<<32 + 5, 5}, 0, nil, []int{10, 11, 12, 13, 14}},
	} {
		w := badged(t, x.badges...)
		w.does(t, badge(x.b), gone(x.out...))
		w.waits(t, len(x.rest) > 0, x.rest...)
		w.leaves(t, badge(x.b), gone())
		for _, n := range x.out {
			w.leaves(t, cancel(n), no)
		}
		for _, n := range x.rest {
			w.does(t, tryRecv(1), met(n, 1, msg(n-10, x.badges[n-10])))
		}
	}
}

// TestP113BadgeOrder: those that went are told in the order in which they came, not by their numbers.
func TestP113BadgeOrder(t *testing.T) {
	w := fresh(t, send(9, msg(0, 5)), send(3, msg(1, 6)), send(7, msg(2, 5)), send(-4, msg(3, 6)), send(1, msg(4, 5)), send(8, msg(5, 5)))
	w.does(t, badge(5), gone(9, 7, 1, 8))
	w.waits(t, true, 3, -4)
	w.does(t, badge(6), gone(3, -4))
	w.waits(t, false)
}

// TestP113BadgeIsTheBadge: no other field of a message is its badge, nor is who sends it.
func TestP113BadgeIsTheBadge(t *testing.T) {
	m := api.Msg{Label: 5, W: [4]uint64{5, 5, 5, 5}, Badge: 6, Calls: true}
	w := fresh(t, send(5, m))
	w.leaves(t, badge(5), gone())
	w.leaves(t, badge(0), gone())
	w.leaves(t, badge(1), gone())
	w.does(t, badge(6), gone(5))
	for _, m := range messages {
		w := fresh(t, send(3, m))
		w.leaves(t, badge(m.Badge+1), gone())
		w.leaves(t, badge(m.Badge^1<<63), gone())
		w.does(t, badge(m.Badge), gone(3))
		w.waits(t, false)
	}
}

// TestP113BadgeWhereSomeReceive: those that receive have no badge, not even 0, nor that of a message of earlier.
func TestP113BadgeWhereSomeReceive(t *testing.T) {
	for _, who := range [][]int{{0}, {4}, {4, 0, 2}} {
		w := receiving(t, who...)
		for _, b := range []uint64{0, 1, 4, maxWord} {
			w.leaves(t, badge(b), gone())
		}
		w.waits(t, false, who...)
	}
	w := sending(t, 4)
	w.follows(t, tryRecv(5), recv(4))
	w.leaves(t, badge(1), gone())
	w.leaves(t, badge(0), gone())
	w.waits(t, false, 4)
}

// TestP113WaitsBehindTheLast: however the last one went, nobody waits, and then they do not send.
func TestP113WaitsBehindTheLast(t *testing.T) {
	for _, c := range []call{tryRecv(9), recv(9), cancel(4), badge(1)} {
		w := sending(t, 4)
		w.waits(t, true, 4)
		w.follows(t, c)
		w.waits(t, false)
		w.follows(t, recv(1), recv(2))
		w.waits(t, false, 1, 2)
	}
	for _, c := range []call{trySend(9, msg(1, 1)), send(9, msg(1, 1)), cancel(4)} {
		w := receiving(t, 4)
		w.waits(t, false, 4)
		w.follows(t, c)
		w.waits(t, false)
		w.follows(t, send(1, msg(1, 1)), send(2, msg(2, 1)))
		w.waits(t, true, 1, 2)
	}
}

// overwrite puts other numbers into a list, and into the room behind it.
func overwrite(l []int) {
	l = l[:cap(l)]
	for i := range l {
		l[i] = -999 - i
	}
}

func list(p *endpoint.Endpoint) []int {
	l, _ := p.Waits()
	return l
}

// TestWaitsIsNewMemory: what is done to a list that was told changes no endpoint, no copy and no other list; nor does a list change.
func TestWaitsIsNewMemory(t *testing.T) {
	for _, lined := range []func(*testing.T, ...int) *pair{sending, receiving} {
		for many := range 10 {
			var who []int
			for n := range many {
				who = append(who, 20-n)
			}
			w := lined(t, who...)
			c := w.copied()
			kept := list(w.k)
			overwrite(list(w.k))
			overwrite(append(list(w.k), 1, 2, 3))
			overwrite(list(c.k))
			looks(t, "an endpoint whose list was changed outside", w.k, w.p)
			looks(t, "a copy whose list was changed outside", c.k, c.p)
			w.follows(t, send(100, msg(1, 1)), recv(101), cancel(18), badge(2), send(102, msg(2, 2)))
			overwrite(append(list(w.k), 1, 2, 3))
			looks(t, "an endpoint that went on", w.k, w.p)
			if !slices.Equal(kept, who) {
				t.Fatalf("a list became %v, not %v", kept, who)
			}
		}
	}
}

func TestBadgeIsNewMemory(t *testing.T) {
	for many := range 10 {
		w := badged(t, slices.Repeat([]uint64{1, 2, 1}, many)...)
		c := w.copied()
		told, rest := w.k.Badge(1), list(w.k)
		badge(1).ofPlain(&w.p)
		kept, keptRest := slices.Clone(told), slices.Clone(rest)
		overwrite(c.k.Copy().Badge(1))
		overwrite(w.k.Copy().Badge(2))
		w.follows(t, send(50, msg(1, 1)), send(51, msg(1, 1)), send(52, msg(1, 2)), recv(60), cancel(51))
		if !slices.Equal(told, kept) || !slices.Equal(rest, keptRest) {
			t.Fatalf("lists became %v, %v, not %v, %v", told, rest, kept, keptRest)
		}
		overwrite(told)
		if !slices.Equal(rest, keptRest) {
			t.Fatalf("a list became %v, not %v", rest, keptRest)
		}
		looks(t, "an endpoint whose list was changed outside", w.k, w.p)
		looks(t, "a copy", c.k, c.p)
		again := w.k.Badge(2)
		badge(2).ofPlain(&w.p)
		overwrite(again)
		overwrite(w.k.Badge(77))
		looks(t, "an endpoint whose lists were changed outside", w.k, w.p)
		w.follows(t, send(70, msg(1, 1)), send(71, msg(1, 1)))
	}
}

// crowds are endpoints in each kind of state.
func crowds(t *testing.T) []*pair {
	t.Helper()
	l := []*pair{fresh(t), sending(t, 1), receiving(t, 1), sending(t, 1, 2, 3), receiving(t, 1, 2, 3), badged(t, 0, 5, 0, 5), sending(t, numbers...), receiving(t, numbers...)}
	// These had more, so that there may be room behind those that wait, and ahead of them.
	met := sending(t, 21, 22, 1, 2, 3, 23)
	met.follows(t, tryRecv(9), tryRecv(9), cancel(23))
	had := receiving(t, 21, 22, 1, 2, 3, 23)
	had.follows(t, trySend(9, msg(1, 1)), trySend(9, msg(1, 1)), cancel(23))
	return append(l, met, had)
}

func changes() []call {
	return []call{send(50, msg(7, 5)), trySend(50, msg(7, 5)), recv(50), tryRecv(50), cancel(1), cancel(2), cancel(3), cancel(13), badge(0), badge(1), badge(5)}
}

// TestP113CopyGoesItsOwnWay: each change at the one leaves the other as it was; then both change, and copies of copies too.
func TestP113CopyGoesItsOwnWay(t *testing.T) {
	for _, origin := range crowds(t) {
		for _, a := range changes() {
			for _, b := range changes() {
				w := origin.copied()
				c := w.copied()
				looks(t, "a copy", c.k, c.p)
				w.follows(t, a)
				looks(t, "a copy whose original was changed", c.k, c.p)
				c.follows(t, b)
				looks(t, "an original whose copy was changed", w.k, w.p)
				w.follows(t, send(60, msg(8, 1)), send(61, msg(9, 0)))
				c.follows(t, send(70, msg(8, 0)), recv(71), recv(72))
				looks(t, "an original whose copy went on", w.k, w.p)
				looks(t, "a copy whose original went on", c.k, c.p)
			}
		}
		looks(t, "what was copied", origin.k, origin.p)
	}
}

// TestAskingChangesNothing: Waits and Copy may be asked at any time, as often as one will.
func TestAskingChangesNothing(t *testing.T) {
	for _, w := range crowds(t) {
		for range 3 {
			w.k.Waits()
			w.k.Copy()
			looks(t, "what was asked", w.k, w.p)
		}
	}
}

// TestRefusedChangesNothing: R2 and R3, in each kind of state: beside an error, and beside a no, all is zero, and stays.
func TestRefusedChangesNothing(t *testing.T) {
	for _, w := range crowds(t) {
		l, sends := w.p.waits()
		for _, n := range l {
			for _, c := range []call{send(n, msg(77, 78)), trySend(n, msg(77, 78)), recv(n), tryRecv(n)} {
				w.leaves(t, c, there)
			}
		}
		w.leaves(t, cancel(5000), no)
		w.leaves(t, badge(5000), gone())
		if sends || len(l) == 0 {
			w.leaves(t, trySend(5000, msg(77, 78)), nobody)
		}
		if !sends {
			w.leaves(t, tryRecv(5000), nobody)
		}
	}
}

// text tells all of an endpoint.
func (p plain) text() string {
	return fmt.Sprint(p.send, p.recv)
}

// TestAllOfFour: every call at every state of four that send one of two messages, or receive.
func TestAllOfFour(t *testing.T) {
	var calls []call
	for who := range 4 {
		calls = append(calls, recv(who), tryRecv(who), cancel(who))
		for b := range 2 {
			calls = append(calls, send(who, msg(who, uint64(b))), trySend(who, msg(who, uint64(b))))
		}
	}
	calls = append(calls, badge(0), badge(1), badge(2))
	w := fresh(t)
	seen := map[string]int{w.p.text(): 1}
	for work := []*pair{w}; len(work) > 0; work = work[1:] {
		for _, c := range calls {
			next := work[0].copied()
			next.follows(t, c)
			to := next.p.text()
			if seen[to]++; seen[to] == 1 {
				work = append(work, next)
			}
		}
		looks(t, "an endpoint whose copies were changed", work[0].k, work[0].p)
	}
	// Of four, one to all wait in an order, and each that sends has one of two messages.
	receive, sends := 4+4*3+4*3*2+4*3*2, 4*2+4*3*4+4*3*2*8+4*3*2*16
	if len(seen) != 1+receive+sends {
		t.Errorf("there are %d states, not %d", len(seen), 1+receive+sends)
	}
}

// row is a row of numbers that is the same at every run.
type row uint64

func (r *row) next(n int) int {
	*r = *r*6364136223846793005 + 1442695040888963407
	return int(*r>>33) % n
}

// call is one of many's, with a message of that label; now those that send are more, now those that receive.
func (r *row) call(many, label int) call {
	who, kind := r.next(many), r.next(10)
	if r.next(15) == 0 {
		who = numbers[r.next(len(numbers))]
	}
	if label/(3*many)%2 == 1 && kind < 8 {
		kind = 7 - kind
	}
	m := msg(label, uint64(r.next(4)))
	switch kind {
	case 0, 1, 2, 3:
		return send(who, m)
	case 4:
		return trySend(who, m)
	case 5:
		return tryRecv(who)
	case 6, 7:
		return recv(who)
	case 8:
		return cancel(who)
	}
	if r.next(4) > 0 {
		return cancel(who)
	}
	return badge(m.Badge)
}

// TestManyCalls: whatever calls were done, an endpoint is as told, and copies of earlier stay.
func TestManyCalls(t *testing.T) {
	at := row(11)
	for many := 2; many <= 40; many += 7 {
		w := fresh(t)
		var earlier []*pair
		for step := range 1500 {
			w.follows(t, at.call(many, step))
			if step%100 == 50 {
				earlier = append(earlier, w.copied())
			}
			if step%150 == 75 {
				// The copy goes on in its original's place: nothing may tell them apart.
				w = w.copied()
			}
		}
		for _, c := range earlier {
			looks(t, "a copy of earlier", c.k, c.p)
		}
	}
}

// TestP114 asks of an endpoint alone: each message meets one receiver at most, none once its sender was let go, and of those that wait the first one meets first.
func TestP114(t *testing.T) {
	at, metAll, let := row(114), 0, 0
	p := endpoint.New()
	pending := map[int]api.Msg{} // the messages of those that wait to send
	for label := range 20000 {
		c := at.call(20, label)
		ahead, sent := p.Waits()
		got := c.of(p)
		behind, sends := p.Waits()
		if c.kind == "Send" && got == nobody && c.waits {
			pending[c.who] = c.m
		}
		if got.met.Is {
			metAll++
			waited, came := got.met.From, got.met.To
			if c.kind == "Send" {
				waited, came = came, waited
			} else if m, is := pending[waited]; !is || got.met.M != m {
				t.Fatalf("%v answers %+v, and %d waits with %v, %v", c, got, waited, m, is)
			}
			if c.kind == "Send" && got.met.M != c.m || came != c.who || sent == (c.kind == "Send") {
				t.Fatalf("%v answers %+v, and those that wait send: %v", c, got, sent)
			}
			if len(ahead) == 0 || waited != ahead[0] || !slices.Equal(behind, ahead[1:]) {
				t.Fatalf("%v answers %+v: there waited %v, and then %v", c, got, ahead, behind)
			}
		}
		for who := range pending {
			if !sends || !slices.Contains(behind, who) {
				delete(pending, who)
				let++
			}
		}
		if sends != (len(pending) > 0) || sends && len(pending) != len(behind) {
			t.Fatalf("behind %v wait %v, %v, and pending are %v", c, behind, sends, pending)
		}
	}
	if metAll < 1000 || let < 1000 {
		t.Errorf("only %d met, and %d were let go", metAll, let)
	}
}

// TestP114EachInItsOrder: as many as there are, those that wait meet one behind another, whatever others come between, each once.
func TestP114EachInItsOrder(t *testing.T) {
	const many = 300
	p := endpoint.New()
	for n := range many {
		p.Send(n, msg(n, uint64(n)), true)
	}
	for n := range many {
		p.Send(many+n, msg(many+n, 0), true)
		if m, e := p.Recv(-1-n, n%2 == 0); m != (api.Met{Is: true, From: n, To: -1 - n, M: msg(n, uint64(n))}) || e != api.OK {
			t.Fatalf("Recv %d = %+v, %d", n, m, e)
		}
	}
	if l := p.Badge(0); len(l) != many || l[0] != many || l[many-1] != 2*many-1 {
		t.Errorf("Badge(0) = %v", l)
	}
	waits(t, "all met", p, false)
	for n := range many {
		p.Recv(n, true)
	}
	for n := range many {
		p.Recv(many+n, true)
		if m, e := p.Send(-1-n, msg(n, 1), n%2 == 0); m != (api.Met{Is: true, From: -1 - n, To: n, M: msg(n, 1)}) || e != api.OK {
			t.Fatalf("Send %d = %+v, %d", n, m, e)
		}
	}
	if l, sends := p.Waits(); len(l) != many || l[0] != many || l[many-1] != 2*many-1 || sends {
		t.Errorf("Waits() = %v, %v", l, sends)
	}
}

// TestOneAnswer: the same calls are answered the same at every run of them.
func TestOneAnswer(t *testing.T) {
	var first []answer
	for run := range 5 {
		at, p := row(77), endpoint.New()
		var got []answer
		for label := range 2000 {
			got = append(got, at.call(20, label).of(p))
		}
		if run == 0 {
			first = got
		}
		if !slices.Equal(got, first) {
			t.Fatal("another run answered otherwise")
		}
	}
}

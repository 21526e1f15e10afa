package order

import (
	"slices"

	"buttress/api"
	"buttress/lock"
)

// queue is of cores that stand in line.
type queue struct {
	lock  *lock.Lock    // it has the order; nil, if there can't be so many cores
	in    map[int]entry // of each core in line
	left  int           // how many times any core left
	waits int           // how many others one that left waited for, at most
}

// entry is of a core, from when it came to stand in line.
type entry struct {
	call int      // the number of its call
	next int      // the kind of what is to be seen of it next: SeenDid, SeenLeft
	told api.Told // what its call came to, if it is done
	left int      // how many times any core had left when it came
}

func empty(cores int) *queue {
	k, _ := lock.New(cores)
	return &queue{lock: k, in: map[int]entry{}}
}

// refuses tells whether one may not be; else it came to be.
func (q *queue) refuses(x api.Seen) bool {
	if !q.may(x) {
		return true
	}
	q.takes(x)
	return false
}

// may tells whether one may be; a case that asks for more than another one falls through to it.
func (q *queue) may(x api.Seen) bool {
	if q.lock == nil {
		return false
	}
	first, e := q.lock.Probe(x.Core)
	c := q.in[x.Core]
	switch x.Kind {
	case api.SeenLeft:
		if !same(c.told, x.T) {
			return false
		}
		fallthrough
	case api.SeenDid:
		return first && c.next == x.Kind && c.call == x.N
	case api.SeenIrq, api.SeenTick:
		if len(q.in) > 0 {
			return false
		}
		fallthrough
	case api.SeenEnter, api.SeenLoad:
		return e == api.ErrLockNone
	}
	return false
}

// takes lets one come to be that may.
func (q *queue) takes(x api.Seen) {
	c := q.in[x.Core]
	switch x.Kind {
	case api.SeenEnter:
		q.lock.Enter(x.Core)
		q.in[x.Core] = entry{call: x.N, next: api.SeenDid, left: q.left}
	case api.SeenDid:
		c.next, c.told = api.SeenLeft, x.T
		q.in[x.Core] = c
	case api.SeenLeft:
		q.lock.Leave(x.Core)
		delete(q.in, x.Core)
		// It did not leave itself in between, so that all that did are others.
		q.waits = max(q.waits, q.left-c.left)
		q.left++
	}
}

// line are all in line, the first one first.
func (q *queue) line() []int {
	if q.lock == nil {
		return nil
	}
	return q.lock.Line()
}

func same(a, b api.Told) bool {
	return a.E == b.E && a.W == b.W && a.Wakes == b.Wakes && slices.Equal(a.Forget, b.Forget)
}

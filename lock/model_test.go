package lock_test

import (
	"cmp"
	"fmt"
	"maps"
	"slices"

	"buttress/api"
	"buttress/lock"
)

// plain is a lock once more: each one in line has a number, greater than all that were given out before.
type plain struct {
	cores, given int
	number       map[int]int // by cores
}

func free(cores int) *plain { return &plain{cores: cores, number: map[int]int{}} }

func (p *plain) copied() *plain { return &plain{p.cores, p.given, maps.Clone(p.number)} }

// line are all that have numbers, the least one first.
func (p *plain) line() []int {
	return slices.SortedFunc(maps.Keys(p.number), func(a, b int) int {
		return cmp.Compare(p.number[a], p.number[b])
	})
}

// ahead is how many have lesser numbers; -1, of one that has none.
func (p *plain) ahead(core int) int {
	mine, is := p.number[core]
	if !is {
		return -1
	}
	many := 0
	for _, n := range p.number {
		if n < mine {
			many++
		}
	}
	return many
}

// text tells all that a lock may tell.
func (p *plain) text() string { return fmt.Sprint(p.cores, p.line()) }

// call is one that a core does at a lock.
type call struct {
	kind string
	core int
}

// answer is what a call says: Probe alone says whether.
type answer struct {
	is bool
	e  api.Errno
}

func enter(core int) call { return call{"Enter", core} }
func probe(core int) call { return call{"Probe", core} }
func leave(core int) call { return call{"Leave", core} }

// each makes a call of each core.
func each(f func(int) call, cores ...int) []call {
	var calls []call
	for _, c := range cores {
		calls = append(calls, f(c))
	}
	return calls
}

func enters(cores ...int) []call { return each(enter, cores...) }
func leaves(cores ...int) []call { return each(leave, cores...) }

// of does a call.
func (c call) of(l *lock.Lock) answer {
	switch c.kind {
	case "Enter":
		return answer{e: l.Enter(c.core)}
	case "Probe":
		is, e := l.Probe(c.core)
		return answer{is, e}
	case "Leave":
		return answer{e: l.Leave(c.core)}
	}
	panic(c.kind)
}

// ofPlain is P16.1 once more: it answers as of does, and changes p.
func (c call) ofPlain(p *plain) answer {
	if c.core < 0 || c.core >= p.cores {
		return answer{e: api.ErrArg}
	}
	ahead := p.ahead(c.core)
	switch c.kind {
	case "Enter":
		if ahead >= 0 {
			return answer{e: api.ErrLockThere}
		}
		p.number[c.core] = p.given
		p.given++
		return answer{}
	case "Probe":
		if ahead < 0 {
			return answer{e: api.ErrLockNone}
		}
		return answer{is: ahead == 0}
	case "Leave":
		if ahead != 0 {
			return answer{e: api.ErrLockNone}
		}
		delete(p.number, c.core)
		return answer{}
	}
	panic(c.kind)
}

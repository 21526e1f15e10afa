package order_test

import (
	"fmt"
	"slices"

	"buttress/api"
	"buttress/order"
)

// answers is all that order tells of what was seen.
type answers struct {
	first       int
	line, calls []int
	waits       int
}

func (a answers) text() string {
	return fmt.Sprintf("First %d, Line %v, Calls %v, Waits %d", a.first, a.line, a.calls, a.waits)
}

func asked(cores int, l []api.Seen) answers {
	return answers{order.First(cores, l), order.Line(cores, l), order.Calls(l), order.Waits(cores, l)}
}

// plain is what order should tell, each of it looked for in the list itself.
func plain(cores int, l []api.Seen) answers {
	a := answers{first: -1}
	for n, x := range l {
		if !plainMay(cores, l[:n], x) {
			a.first = n
			break
		}
	}
	behind := l
	if a.first >= 0 {
		behind = l[:a.first]
	}
	a.line = plainLine(behind)
	for n, x := range behind {
		if x.Kind == api.SeenLeft {
			a.waits = max(a.waits, plainWaited(behind, n))
		}
	}
	for _, x := range l {
		if x.Kind == api.SeenDid {
			a.calls = append(a.calls, x.N)
		}
	}
	return a
}

// latest is the place of the last one of a core and a kind; -1, if there is none.
func latest(l []api.Seen, core, kind int) int {
	for n := len(l) - 1; n >= 0; n-- {
		if l[n].Core == core && l[n].Kind == kind {
			return n
		}
	}
	return -1
}

// plainLine are those that entered, and did not leave since, by the places where they entered.
func plainLine(l []api.Seen) []int {
	var line []int
	for n, x := range l {
		if x.Kind == api.SeenEnter && latest(l, x.Core, api.SeenLeft) < n && latest(l, x.Core, api.SeenEnter) == n {
			line = append(line, x.Core)
		}
	}
	return line
}

// plainWaited is how many others left between the entering and the leaving of who leaves at a place.
func plainWaited(l []api.Seen, at int) int {
	many := 0
	for n := latest(l[:at], l[at].Core, api.SeenEnter); n < at; n++ {
		if l[n].Kind == api.SeenLeft && l[n].Core != l[at].Core {
			many++
		}
	}
	return many
}

// plainMay is P20.1 once more, of one behind others that all may be.
func plainMay(cores int, l []api.Seen, x api.Seen) bool {
	if cores < 1 || cores > 8 || x.Core < 0 || x.Core >= cores {
		return false
	}
	line := plainLine(l)
	entered, did := latest(l, x.Core, api.SeenEnter), latest(l, x.Core, api.SeenDid)
	holds := len(line) > 0 && line[0] == x.Core && l[entered].N == x.N
	switch x.Kind {
	case api.SeenEnter, api.SeenLoad:
		return !slices.Contains(line, x.Core)
	case api.SeenDid:
		return holds && did < entered
	case api.SeenLeft:
		return holds && did > entered && sameTold(l[did].T, x.T)
	case api.SeenIrq, api.SeenTick:
		return len(line) == 0
	}
	return false
}

func sameTold(a, b api.Told) bool {
	if len(a.Forget) != len(b.Forget) {
		return false
	}
	for n := range a.Forget {
		if a.Forget[n] != b.Forget[n] {
			return false
		}
	}
	return a.E == b.E && a.W == b.W && a.Wakes == b.Wakes
}

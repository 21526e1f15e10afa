package irq_test

import (
	"fmt"
	"strings"

	"buttress/api"
	"buttress/irq"
)

// wire is a line once more: what was done to it since it was bound, as letters, R for Raise and A for Ack, without those that make no difference.
type wire struct {
	bound bool
	note  int
	badge uint64
	since string
}

func (w wire) open() bool      { return w.bound && w.since == "" }
func (w wire) meanwhile() bool { return w.since == "RR" }

// done is the line behind one more letter.
func (w wire) done(letter string) wire {
	if !w.bound {
		return w
	}
	w.since += letter
	switch w.since {
	case "A", "RA": // heard, with nothing left to hear of
		w.since = ""
	case "RRA": // what was raised meanwhile is told by it
		w.since = "R"
	}
	w.since = strings.Replace(w.since, "RRR", "RR", 1)
	return w
}

// plain are lines once more.
type plain []wire

// text tells all that lines may tell.
func (p plain) text() string { return fmt.Sprintf("%+v", []wire(p)) }

// call is one that may change lines.
type call struct {
	kind  string
	line  int
	note  int
	badge uint64
}

func bind(line, note int, badge uint64) call { return call{"Bind", line, note, badge} }
func free(line int) call                     { return call{kind: "Free", line: line} }
func raise(line int) call                    { return call{kind: "Raise", line: line} }
func ack(line int) call                      { return call{kind: "Ack", line: line} }

// answer is what a call answers: Bind and Free the error alone.
type answer struct {
	note  int
	badge uint64
	is    bool
	e     api.Errno
}

// signals is Raise's and Ack's answer where a notification is to be signalled.
func signals(note int, badge uint64) answer { return answer{note: note, badge: badge, is: true} }

var (
	done   = answer{}
	no     = answer{}
	arg    = answer{e: api.ErrArg}
	noLine = answer{e: api.ErrIrqNone}
	busy   = answer{e: api.ErrIrqBusy}
)

func (c call) of(l *irq.Lines) answer {
	var a answer
	switch c.kind {
	case "Bind":
		a.e = l.Bind(c.line, c.note, c.badge)
	case "Free":
		a.e = l.Free(c.line)
	case "Raise":
		a.note, a.badge, a.is, a.e = l.Raise(c.line)
	case "Ack":
		a.note, a.badge, a.is, a.e = l.Ack(c.line)
	default:
		panic(c.kind)
	}
	return a
}

// ofWire is P13.1 once more, of a line that is there: it answers as of does, and tells what the line is then.
func (c call) ofWire(was wire) (wire, answer) {
	switch {
	case c.kind == "Bind" && c.note < 0:
		return was, arg
	case c.kind == "Bind" && was.bound, c.kind == "Free" && !was.bound:
		return was, busy
	case c.kind == "Bind":
		return wire{bound: true, note: c.note, badge: c.badge}, done
	case c.kind == "Free":
		return wire{}, done
	case c.kind == "Raise" && was.open(), c.kind == "Ack" && was.meanwhile():
		return was.done(c.kind[:1]), signals(was.note, was.badge)
	}
	return was.done(c.kind[:1]), no
}

// ofPlain is the same of lines of which the call's one may be none; it changes p.
func (c call) ofPlain(p plain) answer {
	if c.line < 0 || c.line >= len(p) {
		return noLine
	}
	var a answer
	p[c.line], a = c.ofWire(p[c.line])
	return a
}

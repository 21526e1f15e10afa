package notify_test

import (
	"fmt"
	"slices"

	"buttress/api"
	"buttress/notify"
)

// plain is a notification once more: the badges that nobody got yet, and those that wait, in lists that are never changed in place.
type plain struct {
	badges []uint64
	line   []int
}

func (p plain) word() (uint64, bool) {
	var w uint64
	for _, b := range p.badges {
		w |= b
	}
	return w, len(p.badges) > 0
}

// text tells all that a notification may tell.
func (p plain) text() string {
	w, is := p.word()
	return fmt.Sprint(w, is, p.line)
}

// call is one that may change a notification.
type call struct {
	kind  string
	who   int
	badge uint64
	waits bool
}

func signal(badge uint64) call { return call{kind: "Signal", badge: badge} }
func wait(who int) call        { return call{kind: "Wait", who: who, waits: true} }
func tryWait(who int) call     { return call{kind: "Wait", who: who} }
func cancel(who int) call      { return call{kind: "Cancel", who: who} }

// answer is what a call answers: of each kind some of these.
type answer struct {
	who int
	w   uint64
	is  bool
	e   api.Errno
}

// gets is Signal's answer where one waits, word is Wait's where it is signalled.
func gets(who int, badge uint64) answer { return answer{who: who, w: badge, is: true} }
func word(w uint64) answer              { return answer{w: w, is: true} }

var (
	there = answer{e: api.ErrNotifyThere}
	yes   = answer{is: true}
	no    = answer{}
)

func (c call) of(n *notify.Notify) answer {
	switch c.kind {
	case "Signal":
		who, w, is := n.Signal(c.badge)
		return answer{who: who, w: w, is: is}
	case "Wait":
		w, is, e := n.Wait(c.who, c.waits)
		return answer{w: w, is: is, e: e}
	case "Cancel":
		return answer{is: n.Cancel(c.who)}
	}
	panic(c.kind)
}

// ofPlain is P12.1 to P12.3 once more: it answers as of does, and changes p.
func (c call) ofPlain(p *plain) answer {
	at := slices.Index(p.line, c.who)
	w, signalled := p.word()
	switch {
	case c.kind == "Signal" && len(p.line) > 0:
		first := p.line[0]
		p.line = p.line[1:]
		return gets(first, c.badge)
	case c.kind == "Signal":
		p.badges = append(slices.Clone(p.badges), c.badge)
	case c.kind == "Cancel" && at >= 0:
		p.line = slices.Concat(p.line[:at], p.line[at+1:])
		return yes
	case c.kind == "Wait" && at >= 0:
		return there
	case c.kind == "Wait" && signalled:
		p.badges = nil
		return word(w)
	case c.kind == "Wait" && c.waits:
		p.line = append(slices.Clone(p.line), c.who)
	}
	return no
}

package endpoint_test

import (
	"fmt"
	"slices"

	"buttress/api"
	"buttress/endpoint"
)

// letter is one that waits to send, and its message.
type letter struct {
	who int
	m   api.Msg
}

// plain is an endpoint once more: those that send and those that receive stand in lists of their own, which are never changed in place.
type plain struct {
	send []letter
	recv []int
}

func (p plain) waits() ([]int, bool) {
	if len(p.send) == 0 {
		return p.recv, false
	}
	var l []int
	for _, x := range p.send {
		l = append(l, x.who)
	}
	return l, true
}

func (p plain) has(who int) bool {
	l, _ := p.waits()
	return slices.Contains(l, who)
}

// call is one that may change an endpoint.
type call struct {
	kind  string
	who   int
	m     api.Msg
	waits bool
}

func send(who int, m api.Msg) call    { return call{"Send", who, m, true} }
func trySend(who int, m api.Msg) call { return call{"Send", who, m, false} }
func recv(who int) call               { return call{"Recv", who, api.Msg{}, true} }
func tryRecv(who int) call            { return call{"Recv", who, api.Msg{}, false} }
func cancel(who int) call             { return call{"Cancel", who, api.Msg{}, false} }
func badge(b uint64) call             { return call{"Badge", 0, api.Msg{Badge: b}, false} }

// answer is what a call answers: of each kind some of these.
type answer struct {
	met  api.Met
	e    api.Errno
	is   bool
	list string
}

func met(from, to int, m api.Msg) answer {
	return answer{met: api.Met{Is: true, From: from, To: to, M: m}}
}

// gone is what Badge answers.
func gone(l ...int) answer {
	return answer{list: told(l)}
}

// told makes a nil list and an empty one the same.
func told(l []int) string {
	if len(l) == 0 {
		return ""
	}
	return fmt.Sprint(l)
}

var (
	there  = answer{e: api.ErrEndpointThere}
	nobody = answer{}
	yes    = answer{is: true}
	no     = answer{}
)

func (c call) of(p *endpoint.Endpoint) answer {
	switch c.kind {
	case "Send":
		m, e := p.Send(c.who, c.m, c.waits)
		return answer{met: m, e: e}
	case "Recv":
		m, e := p.Recv(c.who, c.waits)
		return answer{met: m, e: e}
	case "Cancel":
		return answer{is: p.Cancel(c.who)}
	case "Badge":
		return gone(p.Badge(c.m.Badge)...)
	}
	panic(c.kind)
}

// ofPlain is P11.1 to P11.3 once more: it answers as of does, and changes p.
func (c call) ofPlain(p *plain) answer {
	switch {
	case c.kind == "Cancel":
		is := p.has(c.who)
		p.drop(func(x letter) bool { return x.who == c.who }, func(who int) bool { return who == c.who })
		return answer{is: is}
	case c.kind == "Badge":
		return gone(p.drop(func(x letter) bool { return x.m.Badge == c.m.Badge }, nil)...)
	case p.has(c.who):
		return there
	case c.kind == "Send" && len(p.recv) > 0:
		to := p.recv[0]
		p.recv = p.recv[1:]
		return met(c.who, to, c.m)
	case c.kind == "Recv" && len(p.send) > 0:
		from := p.send[0]
		p.send = p.send[1:]
		return met(from.who, c.who, from.m)
	case c.kind == "Send" && c.waits:
		p.send = append(slices.Clone(p.send), letter{c.who, c.m})
	case c.kind == "Recv" && c.waits:
		p.recv = append(slices.Clone(p.recv), c.who)
	}
	return nobody
}

// drop is who went of those that sent.
func (p *plain) drop(sends func(letter) bool, receives func(int) bool) []int {
	var went []int
	for _, x := range p.send {
		if sends(x) {
			went = append(went, x.who)
		}
	}
	p.send = slices.DeleteFunc(slices.Clone(p.send), sends)
	if receives != nil {
		p.recv = slices.DeleteFunc(slices.Clone(p.recv), receives)
	}
	return went
}

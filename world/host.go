package world

import (
	"parley/api"
	"parley/cluster"
	"parley/node"
)

// The codes with which an ask is rejected.
const (
	moved  = 307
	late   = 503
	noRoom = 507
)

// host is a node's server, from the node's start until it goes down.
type host struct {
	server  *node.Server // nil: the node is down
	applied int
	conns   []*conn // by the server's numbers
}

// conn is a client's connection.
type conn struct {
	number int
	host   *host
	at     int // its number with the server
	out    []byte
	shut   bool
	asks   int    // so many it has made, rejected ones too
	last   Answer // to the last one that came to an entry
}

// begin answers the host of a node that comes up.
func (w *World) begin() *host {
	return &host{server: node.New(w.key)}
}

// connect answers connection number of all, a new one with this host.
func (h *host) connect(number int) *conn {
	c := &conn{number: number, host: h, at: h.server.Connect()}
	h.conns = append(h.conns, c)
	return c
}

// fall lets the server be gone, with all that waited there.
func (h *host) fall() {
	h.server = nil
	for _, c := range h.conns {
		c.shut = true
	}
}

// settle lets the nodes do what an event has given them to do, until nothing is left; then what they say goes out.
func (w *World) settle() {
	for isMore := true; isMore; {
		isMore = false
		for i := range w.Nodes() {
			if w.work(i) {
				isMore = true
			}
		}
	}
	for _, a := range w.given {
		if w.conns[a.Conn].host.server != nil {
			w.answers = append(w.answers, a)
		}
	}
	w.given = nil
	for _, c := range w.conns {
		c.flush()
	}
}

// work lets a node do what there is to do: has it done anything?
func (w *World) work(i int) bool {
	h, v := w.hosts[i], w.cluster.View(i)
	if h.server == nil {
		return false
	}
	if !v.Up {
		h.fall()
		return true
	}
	news := v.Raft.Log[h.applied:v.Raft.Commit]
	for _, x := range news {
		w.apply(h, x)
	}
	asks := h.server.Asks()
	for _, a := range asks {
		w.propose(i, a)
	}
	return len(news)+len(asks) > 0
}

// apply lets a host apply its next entry, and notes the ask that is answered by that.
func (w *World) apply(h *host, x api.Entry) {
	h.applied++
	h.server.Apply(h.applied, x.Term, x.Data)
	for _, c := range h.conns {
		if a := c.last; a.Index == h.applied && a.Term == x.Term {
			a.End = w.event
			w.given = append(w.given, a)
		}
	}
}

// propose lets a node propose what a connection asks for.
func (w *World) propose(i int, a node.Ask) {
	h := w.hosts[i]
	c := h.conns[a.Conn]
	ask := c.asks
	c.asks++
	index, e := w.cluster.Do(cluster.Event{Kind: cluster.Propose, Node: i, Data: a.Data})
	s := w.cluster.View(i).Raft
	switch {
	case e == api.OK:
		h.server.Accept(a.Conn, index, s.Term)
		c.last = Answer{Conn: c.number, Ask: ask, Index: index, Term: s.Term, Data: a.Data, Begin: w.event}
	case e == api.ErrPower: // nothing goes out any more
	case e != api.ErrLeader:
		h.server.Reject(a.Conn, noRoom, 0)
	case s.Leader < 0:
		h.server.Reject(a.Conn, late, 0)
	default:
		h.server.Reject(a.Conn, moved, s.Leader)
	}
}

// flush lets what waits on a connection go out.
func (c *conn) flush() {
	if c.shut {
		return
	}
	b, shut := c.host.server.Take(c.at)
	c.out = append(c.out, b...)
	c.shut = shut
}

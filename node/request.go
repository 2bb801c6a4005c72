package node

import (
	"strconv"
	"strings"

	"parley/api"
	"parley/http"
	"parley/route"
	"parley/session"
	"parley/ws"
)

// protocol is what a subscriber's connection speaks.
const protocol = "websocket"

// wait is a request that awaits its answer.
type wait struct {
	action      route.Action
	last        bool // the connection is shut behind the answer
	index, term int  // of the entry; 0: it has none yet
}

// look looks at a connection's requests one by one, as far as they can be answered at once.
func (s *Server) look(i int) {
	c := s.conns[i]
	for c.wait == nil && len(c.items) > 0 {
		x := c.items[0]
		c.items = c.items[1:]
		s.begin(i, x)
	}
}

// reply answers what a connection awaited, and looks at what came behind it.
func (s *Server) reply(i int, a http.Answer) {
	c := s.conns[i]
	last := c.wait.last
	c.wait = nil
	c.answer(a, last)
	s.look(i)
}

// begin answers a request, or lets it wait for an entry.
func (s *Server) begin(i int, x http.Item) {
	c := s.conns[i]
	if x.Code != 0 {
		c.answer(route.Error(x.Code), true)
		return
	}
	a := route.Plan(x.Req, s.key, s.tick)
	switch a.Kind {
	case route.Refuse:
		c.answer(route.Error(a.Code), x.Req.Close)
	case route.Events:
		s.subscribe(c, a, x.Req)
	default:
		s.ask(i, a, x.Req.Close)
	}
}

// ask lets a connection wait for an entry: with the command, or to look at what is there then.
func (s *Server) ask(i int, a route.Action, last bool) {
	data := Look
	if a.Kind == route.Command {
		var e api.Errno
		if data, e = route.Pack(a.Cmd); e != api.OK {
			s.conns[i].answer(route.Error(wrong), last)
			return
		}
	}
	s.asks = append(s.asks, Ask{Conn: i, Data: data})
	s.conns[i].wait = &wait{action: a, last: last}
}

// subscribe makes a connection a subscriber's, who is sent all that has happened from their place on.
func (s *Server) subscribe(c *conn, a route.Action, r http.Request) {
	key := http.Value(r, "sec-websocket-key")
	if !strings.EqualFold(http.Value(r, "upgrade"), protocol) || key == "" {
		c.answer(route.Error(wrong), r.Close)
		return
	}
	c.answer(handshake(key), false)
	c.follow(a.User, a.N)
	for _, e := range session.Replay(s.cmds, a.User, a.N) {
		c.tell(e)
	}
}

func handshake(key string) http.Answer {
	return http.Answer{Code: switching, Heads: []http.Head{
		{Name: "upgrade", Value: protocol},
		{Name: "connection", Value: "Upgrade"},
		{Name: "sec-websocket-accept", Value: ws.Accept(key)},
	}}
}

// rejection is the answer to what can't be proposed here.
func rejection(code, leader int) http.Answer {
	a := route.Error(code)
	if code == moved {
		a.Heads = []http.Head{{Name: "x-leader", Value: strconv.Itoa(leader)}}
	}
	return a
}

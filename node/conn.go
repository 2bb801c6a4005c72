package node

import (
	"strconv"

	"parley/api"
	"parley/http"
	"parley/json"
	"parley/session"
	"parley/ws"
)

// noText is the code for a message of a subscriber's: none is understood.
const noText = 1003

// conn is a connection. Of one that is shut nothing is left but what waits to go out.
type conn struct {
	out  []byte
	shut bool

	parser http.Parser
	items  []http.Item // those that haven't been looked at
	wait   *wait       // nil: no answer is awaited

	reader *ws.Reader
	feed   *session.Feed // nil: it is no subscriber's
}

// send lets bytes wait to go out. A connection that nobody reads from is shut.
func (c *conn) send(b []byte) {
	switch {
	case c.shut:
	case len(c.out)+len(b) > MaxOut:
		c.close()
	default:
		c.out = append(c.out, b...)
	}
}

func (c *conn) close() {
	*c = conn{out: c.out, shut: true}
}

// answer sends an answer, perhaps the last one.
func (c *conn) answer(a http.Answer, last bool) {
	a.Close = last
	c.send(http.Write(a))
	if last {
		c.close()
	}
}

// follow makes the connection a subscriber's; what came in behind that request is lost.
func (c *conn) follow(user string, from int) {
	if !c.shut {
		*c = conn{out: c.out, reader: ws.NewReader(true), feed: session.Follow(user, from)}
	}
}

// see lets a subscriber see a command: the space ahead of it and behind it, and its events.
func (c *conn) see(before, after api.Space, events []api.Event) {
	if c.feed == nil {
		return
	}
	c.feed.See(before, after, events)
	l, _ := c.feed.Take(len(events))
	for _, e := range l {
		c.tell(e)
	}
}

// tell sends a subscriber an event.
func (c *conn) tell(e api.Event) {
	c.frame(ws.Text, `{"pos":`+strconv.Itoa(e.Pos)+`,"chan":`+strconv.Itoa(e.Chan)+`,"text":`+json.Quote(e.Text)+`}`)
}

func (c *conn) frame(op int, payload string) {
	b, _ := ws.Encode(ws.Frame{Fin: true, Op: op, Payload: payload})
	c.send(b)
}

// read handles the frames of a subscriber.
func (c *conn) read(b []byte) {
	for _, x := range c.reader.Feed(b) {
		switch x.Kind {
		case ws.Ping:
			c.frame(ws.Pong, x.Text)
		case ws.Pong:
		case ws.Text, ws.Binary:
			c.end(noText)
		default: // a Close, or a failure
			c.end(x.Code)
		}
	}
}

// end sends a subscriber the last frame.
func (c *conn) end(code int) {
	c.frame(ws.Close, ws.Closing(code, ""))
	c.close()
}

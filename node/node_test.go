package node_test

import (
	"fmt"
	"math"
	"slices"
	"strconv"
	"strings"
	"testing"
	"unsafe"

	"parley/api"
	"parley/node"
	"parley/session"
	"parley/ws"
)

func check(t *testing.T, what string, got, want any) {
	t.Helper()
	if g, w := fmt.Sprintf("%+v", got), fmt.Sprintf("%+v", want); g != w {
		t.Errorf("%s: %.1000s, not %.1000s", what, g, w)
	}
}

const secret = "k"

// auth is the field that says that a request is a user's, until a tick.
func auth(user string, until int) string {
	s, _ := session.Issue([]byte(secret), user, until)
	return "authorization: Bearer " + s
}

// text is the text of a request.
func text(method, target, body string, heads ...string) string {
	s := method + " " + target + " HTTP/1.1\r\nhost: a\r\n"
	for _, h := range heads {
		s += h + "\r\n"
	}
	if body != "" {
		s += "content-length: " + strconv.Itoa(len(body)) + "\r\n"
	}
	return s + "\r\n" + body
}

func addUser(name string) string {
	return text("POST", "/users", `{"name":"`+name+`"}`)
}

func login(name string) string {
	return text("POST", "/login", `{"name":"`+name+`"}`)
}

// events is the text of a subscriber's request.
func events(user string, from int, heads ...string) string {
	return text("GET", "/events/"+strconv.Itoa(from), "", append(heads, "upgrade: websocket", "sec-websocket-key: dGhlIHNhbXBsZSBub25jZQ==", auth(user, 1000))...)
}

const (
	nothing  = "GET /nothing HTTP/1.1\r\nhost: a\r\n\r\n"
	no404    = "HTTP/1.1 404 Not Found\r\ncontent-length: 13\r\n\r\n{\"error\":404}"
	no503    = "HTTP/1.1 503 Service Unavailable\r\ncontent-length: 13\r\n\r\n{\"error\":503}"
	switched = "HTTP/1.1 101 Switching Protocols\r\nupgrade: websocket\r\nconnection: Upgrade\r\nsec-websocket-accept: s3pPLMBiTxaQ9kYGzzhZRbK+xOo=\r\n\r\n"
)

// ok is the answer to a command that is done.
func ok(body string) string {
	return good(`{"ok":"` + body + `"}`)
}

func good(body string) string {
	return "HTTP/1.1 200 OK\r\ncontent-length: " + strconv.Itoa(len(body)) + "\r\n\r\n" + body
}

// bad is the answer of a code.
func bad(code int, reason string) string {
	return fmt.Sprintf("HTTP/1.1 %d %s\r\ncontent-length: 13\r\n\r\n{\"error\":%d}", code, reason, code)
}

// shutting is an answer behind which the connection is closed.
func shutting(answer string) string {
	return strings.Replace(answer, "\r\n\r\n", "\r\nconnection: close\r\n\r\n", 1)
}

// masked is a client's frame.
func masked(op int, payload string) string {
	b, _ := ws.Encode(ws.Frame{Fin: true, Op: op, Masked: true, Mask: [4]byte{1, 2, 3, 4}, Payload: payload})
	return string(b)
}

// told is the frame that tells an event.
func told(pos, ch int, text string) string {
	return frame(1, fmt.Sprintf(`{"pos":%d,"chan":%d,"text":%s}`, pos, ch, text))
}

// served is a server with so many connections, and these commands applied.
func served(conns int, data ...string) *node.Server {
	s := node.New([]byte(secret))
	for range conns {
		s.Connect()
	}
	for _, x := range data {
		s.Apply(0, 0, x)
	}
	return s
}

// town is a workspace: ann (user 0) and bob (1) are members of general (channel 0), ann alone of secret (1), where she said psst (post 0).
var town = []string{"1|0|-1|||ann", "1|0|-1|||bob", "2|0|-1||ann|general", "2|1|-1||ann|secret", "3|0|-1||bob|", "6|1|-1||ann|psst"}

func fed(t *testing.T, s *node.Server, i int, text string) {
	t.Helper()
	if e := s.Feed(i, []byte(text), 0); e != api.OK {
		t.Errorf("Feed(%d, %.200q): %d", i, text, e)
	}
}

// taken holds what waits to go out on a connection, and whether that is shut.
func taken(t *testing.T, s *node.Server, i int, want string, shut bool) {
	t.Helper()
	b, is := s.Take(i)
	if string(b) != want || is != shut {
		t.Errorf("connection %d: %.500q (%d bytes), %v\nnot %.500q (%d bytes), %v", i, b, len(b), is, want, len(want), shut)
	}
}

// asked holds what is to be proposed.
func asked(t *testing.T, s *node.Server, want ...node.Ask) {
	t.Helper()
	if l := s.Asks(); !slices.Equal(l, want) {
		t.Errorf("Asks: %+v, not %+v", l, want)
	}
}

func TestP25_1Examples(t *testing.T) {
	for _, term := range []int{1, 3} {
		s := node.New([]byte(secret))
		check(t, "Connect", s.Connect(), 0)
		fed(t, s, 0, addUser("ann"))
		taken(t, s, 0, "", false)
		asked(t, s, node.Ask{Conn: 0, Data: "1|0|-1|||ann"})
		s.Accept(0, 2, 1)
		s.Apply(2, term, "1|0|-1|||ann")
		taken(t, s, 0, map[int]string{1: ok("0"), 3: no503}[term], false)
		check(t, "users", s.Space().Users, "[ann]")
	}
	s := served(1)
	fed(t, s, 0, nothing)
	taken(t, s, 0, no404, false)
	fed(t, s, 0, addUser("ann"))
	s.Reject(0, 307, 2)
	taken(t, s, 0, "HTTP/1.1 307 Temporary Redirect\r\nx-leader: 2\r\ncontent-length: 13\r\n\r\n{\"error\":307}", false)
}

func TestP25_1Constants(t *testing.T) {
	check(t, "limits", []int{node.MaxOut, node.MaxConns}, []int{20000, 64})
	check(t, "Look", node.Look, "look")
}

// TestP25_1Connect: 64 connections, those that are shut counted.
func TestP25_1Connect(t *testing.T) {
	s := node.New(nil)
	for i := range 64 {
		check(t, "Connect", s.Connect(), i)
		fed(t, s, i, "\r\n\r\n")
		taken(t, s, i, shutting(bad(400, "Bad Request")), true)
	}
	for range 3 {
		check(t, "one more", s.Connect(), -1)
	}
	taken(t, s, 63, "", true)
	taken(t, s, 64, "", true)
}

// TestP25_1Nobody: connections that there aren't.
func TestP25_1Nobody(t *testing.T) {
	for conns := range 3 {
		for _, i := range []int{-1, conns, conns + 1, 64, math.MaxInt, math.MinInt} {
			s := served(conns, "1|0|-1|||ann")
			check(t, "Feed", s.Feed(i, []byte(nothing), 5000), api.ErrArg)
			taken(t, s, i, "", true)
			s.Accept(i, 1, 1)
			s.Reject(i, 503, 0)
			s.Apply(1, 1, "1|0|-1|||bob")
			asked(t, s)
			taken(t, s, i, "", true)
			check(t, "users", s.Space().Users, "[ann bob]")
			if conns > 0 { // the tick is as it was
				fed(t, s, 0, text("GET", "/channels", "", auth("ann", 1)))
				asked(t, s, node.Ask{Conn: 0, Data: "look"})
			}
		}
	}
}

// TestP25_1Tick: the greatest that was told, wherever, at the moment when something is looked at.
func TestP25_1Tick(t *testing.T) {
	look := func(until int) string { return text("GET", "/channels", "", auth("ann", until)) }
	s := served(2, "1|0|-1|||ann")
	s.Feed(0, []byte(look(1)), math.MinInt)
	s.Accept(0, 1, 1)
	s.Apply(1, 1, "look")
	taken(t, s, 0, good(`{"channels":[]}`), false)
	s.Feed(1, nil, 7)
	s.Feed(1, nil, 6)
	s.Feed(0, []byte(look(7)+look(8)), 0)
	taken(t, s, 0, bad(401, "Unauthorized"), false)
	s.Feed(0, []byte(look(9)+look(10)), 8) // behind the one that waits
	s.Feed(1, []byte("\r\n\r\n"), 9)       // shut from now on
	s.Accept(0, 2, 1)
	s.Apply(2, 1, "look")
	taken(t, s, 0, good(`{"channels":[]}`)+bad(401, "Unauthorized"), false)
	s.Accept(0, 3, 1)
	s.Apply(3, 1, "look")
	taken(t, s, 0, good(`{"channels":[]}`), false)
	s.Feed(0, []byte(login("ann")), 9)
	s.Accept(0, 4, 1)
	s.Feed(1, nil, 40)
	s.Apply(4, 1, "look")
	token, _ := session.Issue([]byte(secret), "ann", 1040)
	taken(t, s, 0, good(`{"token":"`+token+`"}`), false)
}

// TestP25_1AtOnce: what isn't asked is answered at once, in order.
func TestP25_1AtOnce(t *testing.T) {
	s := served(1, town...)
	ann := auth("ann", 1000)
	long := `{"text":"` + strings.Repeat("x", 80) + `"}`
	for _, x := range []struct{ in, out string }{
		{nothing, no404},
		{text("GET", "/users", ""), bad(405, "Method Not Allowed")},
		{text("GET", "/channels", ""), bad(401, "Unauthorized")},
		{text("GET", "/channels", "", auth("ann", 0)), bad(401, "Unauthorized")},
		{text("POST", "/users", "{}"), bad(400, "Bad Request")},
		{text("POST", "/channels/0/posts", `{"text":7}`, ann), bad(400, "Bad Request")},
		{text("POST", "/channels/0/join", "", ann, "x-request: 12345678901234567"), bad(400, "Bad Request")},
		{text("POST", "/channels/0/posts", long, ann), bad(400, "Bad Request")},
		{text("POST", "/channels/0/join", "", ann, "x-request: a|b"), bad(400, "Bad Request")},
		{text("GET", "/events/0", "", ann), bad(400, "Bad Request")},
	} {
		fed(t, s, 0, x.in)
		taken(t, s, 0, x.out, false)
		fed(t, s, 0, x.in+nothing+x.in)
		taken(t, s, 0, x.out+no404+x.out, false)
	}
	asked(t, s)
	check(t, "Pos", s.Space().Pos, len(town))
}

// TestP25_1Asks: what changes the workspace, or looks at it, each told once, in order.
func TestP25_1Asks(t *testing.T) {
	s := served(12)
	ann := auth("ann", 1000)
	fed(t, s, 3, text("POST", "/channels/7/posts", `{"text":"hi|ho","parent":2}`, ann, "x-request: r1"))
	fed(t, s, 0, login("ann"))
	fed(t, s, 1, text("GET", "/channels", "", ann))
	asked(t, s, node.Ask{Conn: 3, Data: "6|7|2|r1|ann|hi|ho"}, node.Ask{Conn: 0, Data: "look"}, node.Ask{Conn: 1, Data: "look"})
	asked(t, s)
	fed(t, s, 4, text("GET", "/channels/3/posts", "", ann))
	fed(t, s, 2, text("GET", "/search/hi", "", ann))
	fed(t, s, 11, text("DELETE", "/posts/5", "", ann))
	fed(t, s, 10, text("POST", "/channels/0/posts", `{"text":"`+strings.Repeat("x", 67)+`"}`, ann))
	asked(t, s, node.Ask{Conn: 4, Data: "look"}, node.Ask{Conn: 2, Data: "look"}, node.Ask{Conn: 11, Data: "8|5|-1||ann|"}, node.Ask{Conn: 10, Data: "6|0|-1||ann|" + strings.Repeat("x", 67)})
	for i := range 12 {
		taken(t, s, i, "", false)
	}
}

// TestP25_1OneByOne: a request is looked at when the one ahead has been answered.
func TestP25_1OneByOne(t *testing.T) {
	s := served(1)
	fed(t, s, 0, addUser("ann")+nothing+addUser("bob")+nothing)
	asked(t, s, node.Ask{Data: "1|0|-1|||ann"})
	fed(t, s, 0, addUser("cid"))
	taken(t, s, 0, "", false)
	asked(t, s)
	s.Reject(0, 507, 9)
	taken(t, s, 0, bad(507, "Insufficient Storage")+no404, false)
	asked(t, s, node.Ask{Data: "1|0|-1|||bob"})
	s.Accept(0, 1, 1)
	asked(t, s)
	s.Apply(1, 1, "1|0|-1|||bob")
	taken(t, s, 0, ok("0")+no404, false)
	asked(t, s, node.Ask{Data: "1|0|-1|||cid"})
	s.Reject(0, 503, 0)
	taken(t, s, 0, no503, false)
	asked(t, s)
}

// TestP25_1Accept: only of one who awaits an answer and has no entry.
func TestP25_1Accept(t *testing.T) {
	s := served(2)
	s.Accept(0, 1, 1) // it awaits none
	fed(t, s, 0, addUser("ann"))
	s.Apply(1, 1, "look")
	taken(t, s, 0, "", false)
	for _, index := range []int{0, -1, math.MinInt} {
		s.Accept(0, index, 1)
		s.Apply(index, 1, "look")
		taken(t, s, 0, "", false)
	}
	s.Accept(1, 4, 1)
	s.Accept(0, 5, -7)
	s.Accept(0, 6, 1) // it has one
	s.Reject(0, 503, 0)
	s.Apply(4, -7, "look")
	s.Apply(6, 1, "look")
	s.Apply(0, -7, "look")
	s.Apply(-5, -7, "look")
	taken(t, s, 0, "", false)
	s.Apply(5, -7, "1|0|-1|||ann")
	taken(t, s, 0, ok("0"), false)
	s.Apply(5, -7, "1|0|-1|||ann")
	s.Reject(0, 503, 0)
	taken(t, s, 0, "", false)
	fed(t, s, 0, addUser("bob"))
	s.Accept(0, math.MaxInt, math.MinInt)
	s.Apply(math.MaxInt, math.MinInt, "1|0|-1|||bob")
	taken(t, s, 0, ok("1"), false)
}

func TestP25_1Reject(t *testing.T) {
	s := served(1)
	s.Reject(0, 503, 0)
	taken(t, s, 0, "", false)
	for _, x := range []struct {
		code, leader int
		want         string
	}{
		{503, 1, no503},
		{507, 1, bad(507, "Insufficient Storage")},
		{307, 0, strings.Replace(bad(307, "Temporary Redirect"), "\r\n", "\r\nx-leader: 0\r\n", 1)},
		{307, -1, strings.Replace(bad(307, "Temporary Redirect"), "\r\n", "\r\nx-leader: -1\r\n", 1)},
		{307, math.MaxInt, strings.Replace(bad(307, "Temporary Redirect"), "\r\n", "\r\nx-leader: 9223372036854775807\r\n", 1)},
		{599, 1, bad(599, "Status")},
		{math.MaxInt, 1, "HTTP/1.1 9223372036854775807 Status\r\ncontent-length: 0\r\n\r\n"},
	} {
		fed(t, s, 0, addUser("ann"))
		s.Reject(0, x.code, x.leader)
		taken(t, s, 0, x.want, false)
		s.Reject(0, x.code, x.leader)
		taken(t, s, 0, "", false)
	}
}

// TestP25_1Apply: an entry's command changes the workspace, whatever its number is, and whoever waits; what is no command changes nothing.
func TestP25_1Apply(t *testing.T) {
	s := served(1)
	for _, data := range []string{"", "look", "Look", "x", "1|0|-1||", "1|0|-1|ann", "01|0|-1|||ann", "1|0||||ann", "1|0|x|||ann", "|||||", "99999999999999999999|0|0|||ann"} {
		s.Apply(1, 1, data)
		check(t, data, s.Space().Pos, 0)
	}
	for i, index := range []int{5, 5, 1, 0, -1, math.MinInt, math.MaxInt} {
		s.Apply(index, -index, fmt.Sprintf("1|0|-1|||user%d", i))
		check(t, "users", len(s.Space().Users), i+1)
	}
	s.Apply(1, 1, "99|0|0|||ann") // of no user's
	check(t, "Pos", s.Space().Pos, 8)
	taken(t, s, 0, "", false)
}

// TestP25_1Answers: what was asked is answered by the entry's command, or by the workspace behind it.
func TestP25_1Answers(t *testing.T) {
	ann, bob := auth("ann", 1000), auth("bob", 1000)
	token, _ := session.Issue([]byte(secret), "bob", 1000)
	for _, x := range []struct{ in, data, out string }{
		{addUser("cid"), "1|0|-1|||cid", ok("2")},
		{addUser("ann"), "1|0|-1|||ann", bad(409, "Conflict")},
		{addUser("cid"), "look", "HTTP/1.1 0 Status\r\ncontent-length: 11\r\n\r\n{\"error\":0}"},
		{addUser("cid"), "", "HTTP/1.1 0 Status\r\ncontent-length: 11\r\n\r\n{\"error\":0}"},
		{addUser("cid"), "6|0|-1||bob|hi", ok("1")}, // another one's command
		{text("POST", "/channels/0/posts", `{"text":"hi"}`, bob), "6|0|-1||bob|hi", ok("1")},
		{text("POST", "/channels/1/posts", `{"text":"hi"}`, bob), "6|1|-1||bob|hi", bad(403, "Forbidden")},
		{text("POST", "/channels/2/posts", `{"text":"hi"}`, bob), "6|2|-1||bob|hi", bad(404, "Not Found")},
		{login("bob"), "look", good(`{"token":"` + token + `"}`)},
		{login("cid"), "look", no404},
		{login("bob"), "6|0|-1||bob|hi", good(`{"token":"` + token + `"}`)},
		{text("GET", "/channels", "", ann), "look", good(`{"channels":["general","secret"]}`)},
		{text("GET", "/channels", "", bob), "", good(`{"channels":["general"]}`)},
		{text("GET", "/channels/0/posts", "", bob), "6|0|-1||bob|hi", good(`{"posts":[[1,"bob","hi",-1]]}`)},
		{text("GET", "/channels/1/posts", "", bob), "look", bad(403, "Forbidden")},
		{text("GET", "/search/psst", "", ann), "look", good(`{"found":[0]}`)},
		{text("GET", "/search/psst", "", bob), "look", good(`{"found":[]}`)},
		{text("GET", "/channels", "", auth("cid", 1000)), "look", bad(403, "Forbidden")},
		{text("GET", "/channels", "", auth("cid", 1000)), "1|0|-1|||cid", good(`{"channels":[]}`)},
	} {
		s := served(1, town...)
		fed(t, s, 0, x.in)
		s.Accept(0, 4, 2)
		s.Apply(4, 2, x.data)
		taken(t, s, 0, x.out, false)
		fed(t, s, 0, x.in)
		s.Accept(0, 5, 2)
		s.Apply(5, 1, x.data)
		taken(t, s, 0, no503, false)
	}
}

// TestP25_1Rising: several connections wait for one entry: they are answered by rising numbers, each one's next request ahead of the next one's answer.
func TestP25_1Rising(t *testing.T) {
	s := served(4, town...)
	for _, i := range []int{2, 0, 3, 1} {
		fed(t, s, i, addUser(fmt.Sprint("u", i))+nothing+addUser(fmt.Sprint("v", i)))
		s.Accept(i, 9, i%2)
	}
	asked(t, s, node.Ask{Conn: 2, Data: "1|0|-1|||u2"}, node.Ask{Conn: 0, Data: "1|0|-1|||u0"}, node.Ask{Conn: 3, Data: "1|0|-1|||u3"}, node.Ask{Conn: 1, Data: "1|0|-1|||u1"})
	s.Apply(9, 1, "1|0|-1|||u3")
	asked(t, s, node.Ask{Conn: 0, Data: "1|0|-1|||v0"}, node.Ask{Conn: 1, Data: "1|0|-1|||v1"}, node.Ask{Conn: 2, Data: "1|0|-1|||v2"}, node.Ask{Conn: 3, Data: "1|0|-1|||v3"})
	for i := range 4 {
		taken(t, s, i, []string{no503, ok("2")}[i%2]+no404, false)
	}
}

// TestP25_1Close: behind the answer to a request that says so, or to none, the connection is shut: nothing more is read.
func TestP25_1Close(t *testing.T) {
	last := text("GET", "/nothing", "", "connection: close")
	s := served(6, town...)
	fed(t, s, 0, nothing+last+nothing+addUser("cid"))
	fed(t, s, 0, nothing)
	taken(t, s, 0, no404+shutting(no404), true)
	taken(t, s, 0, "", true)
	fed(t, s, 1, nothing+"get / HTTP/1.1\r\n\r\n"+nothing)
	taken(t, s, 1, no404+shutting(bad(400, "Bad Request")), true)
	fed(t, s, 2, "POST /users HTTP/1.1\r\nhost: a\r\ncontent-length: 4097\r\n\r\n")
	taken(t, s, 2, shutting(bad(413, "Content Too Large")), true)
	fed(t, s, 3, strings.Repeat("x", 1024))
	taken(t, s, 3, shutting(bad(431, "Request Header Fields Too Large")), true)
	asked(t, s)

	fed(t, s, 4, text("POST", "/users", `{"name":"dan"}`, "connection: close")+nothing+addUser("cid"))
	fed(t, s, 5, text("POST", "/users", `{"name":"eva"}`, "Connection: CLOSE")+"\r\n\r\n")
	asked(t, s, node.Ask{Conn: 4, Data: "1|0|-1|||dan"}, node.Ask{Conn: 5, Data: "1|0|-1|||eva"})
	s.Reject(4, 307, 1)
	taken(t, s, 4, "HTTP/1.1 307 Temporary Redirect\r\nx-leader: 1\r\ncontent-length: 13\r\nconnection: close\r\n\r\n{\"error\":307}", true)
	s.Accept(5, 1, 1)
	fed(t, s, 5, nothing)
	taken(t, s, 5, "", false)
	s.Apply(1, 1, "1|0|-1|||eva")
	taken(t, s, 5, shutting(ok("2")), true)
	asked(t, s)
	check(t, "users", s.Space().Users, "[ann bob eva]")
}

// TestP25_1CloseBadly: what can't be packed, or isn't a handshake, is answered like any other request.
func TestP25_1CloseBadly(t *testing.T) {
	ann := auth("ann", 1000)
	for _, in := range []string{
		text("POST", "/channels/0/join", "", ann, "x-request: a|b", "connection: close"),
		text("GET", "/events/0", "", ann, "connection: close"),
		text("POST", "/users", "7", "connection: close"),
	} {
		s := served(1)
		fed(t, s, 0, in+nothing)
		taken(t, s, 0, shutting(bad(400, "Bad Request")), true)
	}
}

// TestP25_1MaxOut: 20000 bytes wait to go out, no more.
func TestP25_1MaxOut(t *testing.T) {
	many := 20000 / len(no404)
	s := served(2)
	fed(t, s, 0, strings.Repeat(nothing, many))
	fed(t, s, 1, strings.Repeat(nothing, many)+nothing+addUser("ann"))
	asked(t, s)
	taken(t, s, 0, strings.Repeat(no404, many), false)
	taken(t, s, 1, strings.Repeat(no404, many), true)
	fed(t, s, 0, strings.Repeat(nothing, many))
	taken(t, s, 0, strings.Repeat(no404, many), false)
	fed(t, s, 0, nothing+addUser("ann"))
	fed(t, s, 0, strings.Repeat(nothing, many-1)+addUser("bob"))
	s.Accept(0, 1, 1)
	s.Apply(1, 1, "1|0|-1|||ann")
	taken(t, s, 0, no404+ok("0")+strings.Repeat(no404, many-1), false)
}

// TestP25_1JustMaxOut: the last byte for which there is room, of a subscriber's.
func TestP25_1JustMaxOut(t *testing.T) {
	for more := range 3 {
		s := served(1)
		fed(t, s, 0, events("ann", 0))
		left := 20000 - len(switched)
		in, out := "", switched
		for left > 127+127 {
			in += masked(ws.Ping, strings.Repeat("p", 125))
			out += frame(10, strings.Repeat("p", 125))
			left -= 127
		}
		half := left / 2
		in += masked(ws.Ping, strings.Repeat("q", half-2))
		out += frame(10, strings.Repeat("q", half-2))
		left -= half
		last := strings.Repeat("r", left-2+more-1)
		in += masked(ws.Ping, last)
		if more < 2 {
			out += frame(10, last)
		}
		fed(t, s, 0, in)
		check(t, "bytes", len(out) <= 20000, true)
		if more != 1 {
			fed(t, s, 0, masked(ws.Ping, "")) // two bytes more
			taken(t, s, 0, out, true)
			continue
		}
		check(t, "bytes", len(out), 20000)
		taken(t, s, 0, out, false)
		fed(t, s, 0, masked(ws.Ping, ""))
		taken(t, s, 0, frame(10, ""), false)
	}
}

// TestP25_1TooMuch: an answer, a handshake, an event, a last frame for which there is no room: the connection is shut, what waits goes out.
func TestP25_1TooMuch(t *testing.T) {
	many := 20000 / len(no404)
	full := strings.Repeat(no404, many)
	s := served(3, town...)
	fed(t, s, 0, strings.Repeat(nothing, many)+addUser("cid")+addUser("dan")+addUser("eva"))
	fed(t, s, 1, strings.Repeat(nothing, many)+events("ann", 0))
	s.Accept(0, 1, 1)
	s.Apply(1, 1, "1|0|-1|||cid")
	s.Accept(0, 2, 1)
	s.Apply(2, 1, "1|0|-1|||dan") // there is no room for a second answer
	s.Apply(3, 1, "6|0|-1||ann|hi")
	taken(t, s, 0, full+ok("2"), true)
	taken(t, s, 1, full, true)
	asked(t, s, node.Ask{Conn: 0, Data: "1|0|-1|||cid"}, node.Ask{Conn: 0, Data: "1|0|-1|||dan"})

	fed(t, s, 2, events("ann", 6))
	pos, out := 9, switched+told(9, 0, `"post 1 ann hi"`)
	for {
		pos++
		s.Apply(0, 0, "9|1|0||bob|ok")
		x := told(pos, 0, `"`+[]string{"react", "unreact"}[pos%2]+` 1 bob ok"`)
		if len(out)+len(x) > 20000 {
			break
		}
		out += x
	}
	s.Apply(0, 0, "9|1|0||bob|o")
	fed(t, s, 2, masked(ws.Ping, ""))
	taken(t, s, 2, out, true)

	s = served(1, town...)
	fed(t, s, 0, events("ann", 0))
	fill := frame(10, strings.Repeat("p", 123))
	taken(t, s, 0, switched+told(5, 0, `"join bob"`)+told(6, 1, `"post 0 ann psst"`), false)
	fed(t, s, 0, strings.Repeat(masked(ws.Ping, strings.Repeat("p", 123)), 160)+masked(ws.Close, ws.Closing(1000, "")))
	taken(t, s, 0, strings.Repeat(fill, 160), true)
}

// TestP25_1History: of what has been applied only as much goes out as there is room for.
func TestP25_1History(t *testing.T) {
	s := served(3, town...)
	change := func(pos int) string { return told(pos, 1, `"`+[]string{"unreact", "react"}[pos%2]+` 0 ann ok"`) }
	first, last, isFull := switched, switched, false
	for pos := 7; pos < 600; pos++ {
		s.Apply(0, 0, "9|0|0||ann|ok")
		isFull = isFull || len(first)+len(change(pos)) > 20000
		if !isFull {
			first += change(pos)
		}
		if pos > 299 {
			last += change(pos)
		}
	}
	fed(t, s, 0, events("ann", 6))
	taken(t, s, 0, first, true)
	fed(t, s, 1, events("ann", 299))
	taken(t, s, 1, last, false)
	fed(t, s, 2, events("bob", 6))
	taken(t, s, 2, switched, false)
}

func TestP25_1Handshake(t *testing.T) {
	ann := auth("ann", 1000)
	get := func(heads ...string) string { return text("GET", "/events/0", "", append(heads, ann)...) }
	key := "sec-websocket-key: dGhlIHNhbXBsZSBub25jZQ=="
	for _, in := range []string{
		get("upgrade: websocket", key),
		get(key, "Upgrade: WebSocket"),
		get("UPGRADE: WEBSOCKET", "Sec-WebSocket-Key:   dGhlIHNhbXBsZSBub25jZQ==  "),
		get("upgrade: websocket", "upgrade: x", key, "sec-websocket-key: b"),
		get("upgrade: websocket", key, "connection: close"),
		get("upgrade: websocket", key, "connection: Upgrade", "sec-websocket-version: 13"),
		text("GET", "/events/999999", "", "upgrade: websocket", key, ann),
		text("GET", "/events/0", "", "upgrade: websocket", key, auth("nobody", 1)),
	} {
		s := served(1)
		fed(t, s, 0, in)
		taken(t, s, 0, switched, false)
		fed(t, s, 0, masked(ws.Ping, "a")+masked(ws.Ping, "b"))
		taken(t, s, 0, frame(10, "a")+frame(10, "b"), false)
		asked(t, s)
	}
	for _, in := range []string{
		get(key), get("upgrade: websocket"), get(), get("upgrade: websockets", key), get("upgrade: websocke", key), get("upgrade:", key), get("upgrade: web socket", key), get("upgrade: h2c, websocket", key),
		get("upgrade: websocket", "sec-websocket-key:"), get("upgrade: websocket", "sec-websocket-key:  "), get("upgrade: websocket", "sec-websocket-key:", key), get("upgrade: x", "upgrade: websocket", key), get("upgrade: websocket", "sec-websocket-accept: a"),
	} {
		s := served(1)
		fed(t, s, 0, in+nothing)
		taken(t, s, 0, bad(400, "Bad Request")+no404, false)
	}
	s := served(1)
	fed(t, s, 0, text("GET", "/events/0", "", "upgrade: websocket", "sec-websocket-key: x y", ann))
	taken(t, s, 0, strings.Replace(switched, ws.Accept("dGhlIHNhbXBsZSBub25jZQ=="), ws.Accept("x y"), 1), false)
	fed(t, s, 0, text("GET", "/events/0", "", "upgrade: websocket", key))
	taken(t, s, 0, frame(8, ws.Closing(1002, "")), true) // those are no frames
}

// TestP25_1Lost: what came in behind a subscriber's request, ahead of its being looked at, is lost.
func TestP25_1Lost(t *testing.T) {
	for _, behind := range []string{nothing, "GET", "\r\n\r\n", strings.Repeat("x", 2000), addUser("cid"), masked(ws.Close, ""), masked(ws.Text, "hi") + "GET"} {
		s := served(2, town...)
		fed(t, s, 0, events("ann", 9)+behind)
		taken(t, s, 0, switched, false)
		fed(t, s, 0, masked(ws.Ping, "a"))
		taken(t, s, 0, frame(10, "a"), false)

		fed(t, s, 1, addUser("cid")+events("ann", 9))
		fed(t, s, 1, behind)
		s.Accept(1, 1, 1)
		fed(t, s, 1, behind)
		s.Apply(1, 1, "1|0|-1|||cid")
		taken(t, s, 1, ok("2")+switched, false)
		fed(t, s, 1, masked(ws.Ping, "a"))
		taken(t, s, 1, frame(10, "a"), false)
		asked(t, s, node.Ask{Conn: 1, Data: "1|0|-1|||cid"})
	}
}

// TestP25_1Events: those behind a place, of channels of which the user was a member, ahead of the request and behind it.
func TestP25_1Events(t *testing.T) {
	s := served(5, town...)
	fed(t, s, 0, events("ann", 0))
	fed(t, s, 1, events("bob", 5))
	fed(t, s, 2, events("ann", 7))
	fed(t, s, 3, events("cid", 0))
	taken(t, s, 0, switched+told(5, 0, `"join bob"`)+told(6, 1, `"post 0 ann psst"`), false)
	for i := 1; i < 4; i++ {
		taken(t, s, i, switched, false)
	}
	fed(t, s, 4, nothing)
	taken(t, s, 4, no404, false)
	s.Apply(1, 1, "6|0|-1||bob|hi")                // 7
	s.Apply(2, 1, "1|0|-1|||cid")                  // 8
	s.Apply(3, 1, "5|1|-1||ann|cid")               // 9
	s.Apply(4, 1, "6|0|-1||nobody|hi")             // 10: refused
	s.Apply(5, 1, "4|0|-1||ann|")                  // 11
	s.Apply(6, 1, "look")                          // nothing
	s.Apply(7, 1, "6|0|-1||bob|\"\x01\u00e9\\@a>") // 12
	taken(t, s, 0, told(7, 0, `"post 1 bob hi"`)+told(9, 1, `"join cid"`)+told(11, 0, `"leave ann"`), false)
	taken(t, s, 1, told(7, 0, `"post 1 bob hi"`)+told(11, 0, `"leave ann"`)+told(12, 0, `"post 2 bob \"\u0001é\\@a>"`), false)
	taken(t, s, 2, told(9, 1, `"join cid"`)+told(11, 0, `"leave ann"`), false)
	taken(t, s, 3, told(9, 1, `"join cid"`), false)
	taken(t, s, 4, "", false)
	fed(t, s, 4, events("bob", 7))
	taken(t, s, 4, switched+told(11, 0, `"leave ann"`)+told(12, 0, `"post 2 bob \"\u0001é\\@a>"`), false)
	s.Apply(8, 1, "8|2|-1||bob|")
	for i, want := range []string{"", told(13, 0, `"delete 2"`), "", "", told(13, 0, `"delete 2"`)} {
		taken(t, s, i, want, false)
	}
}

// TestP25_1Behind: one who follows by a request behind another one's answer is told that one's event once.
func TestP25_1Behind(t *testing.T) {
	s := served(1, town...)
	fed(t, s, 0, text("POST", "/channels/1/posts", `{"text":"x"}`, auth("ann", 1000))+events("ann", 6))
	s.Accept(0, 1, 1)
	s.Apply(1, 1, "6|1|-1||ann|x")
	taken(t, s, 0, ok("1")+switched+told(7, 1, `"post 1 ann x"`), false)
	s.Apply(2, 1, "8|1|-1||ann|")
	taken(t, s, 0, told(8, 1, `"delete 1"`), false)
}

// TestP25_1Again: a request that is asked again tells no event again.
func TestP25_1Again(t *testing.T) {
	s := served(1, town...)
	fed(t, s, 0, events("ann", 6))
	for range 3 {
		s.Apply(0, 0, "6|1|-1|r1|ann|x")
	}
	taken(t, s, 0, switched+told(7, 1, `"post 1 ann x"`), false)
	check(t, "Pos", s.Space().Pos, 7)
}

// TestP25_1Frames: what a subscriber's frames are answered.
func TestP25_1Frames(t *testing.T) {
	long := strings.Repeat("p", 125)
	part := func(op int, fin bool, payload string) string {
		b, _ := ws.Encode(ws.Frame{Fin: fin, Op: op, Masked: true, Payload: payload})
		return string(b)
	}
	closing := func(code int) string { return frame(8, ws.Closing(code, "")) }
	for _, x := range []struct {
		in, out string
		shut    bool
	}{
		{masked(ws.Ping, ""), frame(10, ""), false},
		{masked(ws.Ping, long), frame(10, long), false},
		{masked(ws.Ping, "\xff\x00"), frame(10, "\xff\x00"), false},
		{masked(ws.Pong, "x"), "", false},
		{masked(ws.Close, ""), "\x88\x00", true},
		{masked(ws.Close, ws.Closing(1000, "")), "\x88\x02\x03\xe8", true},
		{masked(ws.Close, ws.Closing(4999, "bye")), closing(4999), true},
		{masked(ws.Close, ws.Closing(1004, "")), closing(1002), true},
		{masked(ws.Close, "x"), closing(1002), true},
		{masked(ws.Text, "hi"), closing(1003), true},
		{masked(ws.Text, ""), closing(1003), true},
		{masked(ws.Binary, "\xff"), closing(1003), true},
		{masked(ws.Text, "\xff"), closing(1007), true},
		{part(ws.Text, false, "a") + masked(ws.Ping, "b"), frame(10, "b"), false},
		{part(ws.Binary, false, "a") + part(ws.More, false, "b") + part(ws.More, true, "c"), closing(1003), true},
		{part(ws.Text, false, strings.Repeat("a", 4000)) + part(ws.More, false, strings.Repeat("a", 97)), closing(1009), true},
		{masked(ws.More, ""), closing(1002), true},
		{masked(3, ""), closing(1002), true},
		{frame(9, ""), closing(1002), true},
		{frame(8, ""), closing(1002), true},
	} {
		for _, piece := range []int{1, len(x.in)} {
			s := served(1, town...)
			fed(t, s, 0, events("ann", 9))
			taken(t, s, 0, switched, false)
			for p := range slices.Chunk([]byte(x.in), piece) {
				s.Feed(0, p, 0)
			}
			s.Feed(0, []byte(masked(ws.Ping, "a")), 0)
			out := x.out
			if !x.shut {
				out += frame(10, "a")
			}
			taken(t, s, 0, out, x.shut)
			s.Apply(1, 1, "8|0|-1||ann|")
			s.Apply(2, 1, "6|1|-1||ann|x")
			s.Apply(3, 1, "8|1|-1||ann|")
			if x.shut {
				taken(t, s, 0, "", true)
			}
			in := masked(ws.Ping, "b") + masked(ws.Close, "") + masked(ws.Ping, "c")
			s = served(1)
			fed(t, s, 0, events("ann", 9))
			fed(t, s, 0, x.in+in)
			want := x.out
			if !x.shut {
				want += frame(10, "b") + "\x88\x00"
			}
			taken(t, s, 0, switched+want, true)
		}
	}
}

// TestP25_1Pieces: bytes that come in pieces come to the same.
func TestP25_1Pieces(t *testing.T) {
	in := text("POST", "/nothing", "some body") + nothing + text("POST", "/users", `{"name":"cid"}`, "x-request: r") + events("ann", 5)
	run := func(size int) string {
		s := served(1, town...)
		for p := range slices.Chunk([]byte(in), size) {
			s.Feed(0, p, 0)
		}
		l := s.Asks()
		s.Accept(0, 1, 1)
		s.Apply(1, 1, "1|0|-1|r||cid")
		b, shut := s.Take(0)
		return fmt.Sprintf("%+v %q %v", l, b, shut)
	}
	want := fmt.Sprintf("%+v %q false", []node.Ask{{Data: "1|0|-1|r||cid"}}, no404+no404+ok("2")+switched+told(6, 1, `"post 0 ann psst"`))
	for _, size := range []int{len(in), 1, 2, 3, 7, 50, 100, 301} {
		check(t, fmt.Sprint("in pieces of ", size), run(size), want)
	}
}

// TestP25_1Many: as many subscribers as there may be, each by a token of their own.
func TestP25_1Many(t *testing.T) {
	s := served(64, "1|0|-1|||ann", "2|0|-1||ann|general")
	for i := range 64 {
		fed(t, s, i, events("ann", i/2))
	}
	for n := range 35 {
		s.Apply(n+1, 1, "3|0|-1||ann|")
	}
	for i := range 64 {
		out := switched
		for pos := max(3, i/2+1); pos <= 37; pos++ {
			out += told(pos, 0, `"join ann"`)
		}
		taken(t, s, i, out, false)
	}
}

// bytesOf is a text, and the bytes that it stands on.
func bytesOf(s string) (string, []byte) {
	b := []byte(s)
	return unsafe.String(unsafe.SliceData(b), len(b)), b
}

// spoil writes over bytes and the room behind them.
func spoil(b []byte) {
	b = b[:cap(b)]
	for i := range b {
		b[i] = '#'
	}
}

// roomy is bytes with room behind them, which has something in it.
func roomy(s string) []byte {
	return append([]byte(s), "|||||"...)[:len(s)]
}

// TestP25_2Kept: nothing that is handed in is changed, or kept.
func TestP25_2Kept(t *testing.T) {
	key := roomy(secret)
	s := node.New(key)
	check(t, "the key", string(key[:6]), "k|||||")
	spoil(key)
	s.Connect()
	s.Connect()
	feed := func(i int, text string) {
		t.Helper()
		b := roomy(text)
		s.Feed(i, b, 0)
		check(t, "bytes", string(b[:len(b)+5]), text+"|||||")
		spoil(b)
	}
	apply := func(index int, text string) {
		t.Helper()
		data, b := bytesOf(text)
		s.Apply(index, 1, data)
		check(t, "data", string(b), text)
		spoil(b)
	}
	for _, data := range town {
		apply(0, data)
	}
	feed(1, events("ann", 5))
	post := text("POST", "/channels/0/posts", `{"text":"hi"}`, auth("bob", 1000), "x-request: r1")
	for i := range len(post) {
		feed(0, post[i:i+1])
	}
	feed(0, login("bob")+"GET /chan")
	feed(0, "nels HTTP/1.1\r\nhost: a\r\n"+auth("bob", 1000)+"\r\n\r\n")
	asked(t, s, node.Ask{Data: "6|0|-1|r1|bob|hi"})
	s.Accept(0, 1, 1)
	apply(1, "6|0|-1|r1|bob|hi")
	s.Accept(0, 2, 1)
	apply(2, "look")
	s.Accept(0, 3, 1)
	apply(3, "look")
	token, _ := session.Issue([]byte(secret), "bob", 1000)
	taken(t, s, 0, ok("1")+good(`{"token":"`+token+`"}`)+good(`{"channels":["general"]}`), false)
	feed(1, masked(ws.Ping, "abc")[:5])
	feed(1, masked(ws.Ping, "abc")[5:])
	taken(t, s, 1, switched+told(6, 1, `"post 0 ann psst"`)+told(7, 0, `"post 1 bob hi"`)+frame(10, "abc"), false)
	apply(0, "6|0|-1|r1|bob|hi")
	check(t, "Space", s.Space(), "{Users:[ann bob] Chans:[{Name:general Closed:false Members:[0 1]} {Name:secret Closed:true Members:[0]}] Posts:[{Chan:1 User:0 Parent:-1 Text:psst Edits:0 Gone:false} {Chan:0 User:1 Parent:-1 Text:hi Edits:0 Gone:false}] Marks:[] Seens:[] Done:[{Req:r1 Reply:{Code:200 Body:1}}] Pos:7}")
	feed(0, events("bob", 6))
	taken(t, s, 0, switched+told(7, 0, `"post 1 bob hi"`), false)
}

// TestP25_2New: what is answered is new memory.
func TestP25_2New(t *testing.T) {
	s := served(2, append(town, "9|0|0|r1|ann|ok", "10|1|0||ann|")...)
	want := fmt.Sprintf("%+v", s.Space())
	x := s.Space()
	for _, l := range [][]string{x.Users, append(x.Users, "x")} {
		l[0] = "x"
	}
	x.Chans[0].Name, x.Chans[0].Members[0], x.Chans[1].Members = "x", 7, nil
	_ = append(x.Chans[0].Members, 9)
	x.Chans = append(x.Chans, api.Chan{})
	x.Posts[0].Text, x.Marks[0].Name, x.Seens[0].Upto, x.Done[0].Req = "x", "x", 9, "x"
	_ = append(x.Posts, api.Post{Text: "x"})
	check(t, "Space", s.Space(), want)
	s.Apply(0, 0, "6|0|-1||bob|hi")
	check(t, "the one ahead", x.Posts[0].Text, "x")

	fed(t, s, 0, addUser("a"))
	fed(t, s, 1, addUser("b"))
	l := s.Asks()
	for i := range l[:cap(l)] {
		l[:cap(l)][i] = node.Ask{Conn: 9, Data: "x"}
	}
	s.Reject(0, 503, 0)
	fed(t, s, 0, addUser("c"))
	asked(t, s, node.Ask{Conn: 0, Data: "1|0|-1|||c"})

	b, _ := s.Take(0)
	spoil(b)
	fed(t, s, 1, nothing)
	s.Reject(0, 503, 0)
	s.Reject(1, 503, 0)
	b, _ = s.Take(0)
	spoil(b)
	check(t, "another one's", string(b) != no503, true)
	taken(t, s, 1, no503+no404, false)
}

// TestP25_1Two: two servers have nothing in common, and one row of calls has one answer.
func TestP25_1Two(t *testing.T) {
	a, b := served(1, town...), node.New([]byte("other"))
	b.Connect()
	fed(t, a, 0, events("ann", 0))
	fed(t, b, 0, events("ann", 0))
	taken(t, b, 0, bad(401, "Unauthorized"), false)
	taken(t, a, 0, switched+told(5, 0, `"join bob"`)+told(6, 1, `"post 0 ann psst"`), false)
	check(t, "Space", b.Space(), api.Space{})
}

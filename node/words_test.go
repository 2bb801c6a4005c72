package node_test

import (
	"fmt"
	"math/rand"
	"slices"
	"strconv"
	"strings"
	"testing"

	"parley/api"
	"parley/http"
	"parley/json"
	"parley/node"
	"parley/route"
	"parley/session"
	"parley/space"
	"parley/ws"
)

// client is a connection as the document's words have it: all that came in since it speaks what it speaks, and how much of that has been looked at.
type client struct {
	out, in      string
	items        []http.Item // the requests in that
	shut, awaits bool
	looked       int // at so many requests, or frames
	action       route.Action
	last         bool
	index, term  int
	isSub        bool
	user         string
	from, told   int // so many events were told
}

// words is a server beside one that goes by the document's words.
type words struct {
	t    *testing.T
	what string
	s    *node.Server
	key  string
	tick int
	l    []*client
	asks []node.Ask
	cmds []api.Cmd
	// is is the workspace.
	is api.Space
	// seen is how often what happened.
	seen map[string]int
}

func begin(t *testing.T, what, key string) *words {
	return &words{t: t, what: what, s: node.New([]byte(key)), key: key, seen: map[string]int{}}
}

func (w *words) fail(form string, args ...any) {
	w.t.Helper()
	w.t.Fatalf("%s: %.3000s", w.what, fmt.Sprintf(form, args...))
}

func (w *words) connect() int {
	w.t.Helper()
	want := -1
	if len(w.l) < 64 {
		want = len(w.l)
		w.l = append(w.l, &client{})
	}
	if got := w.s.Connect(); got != want {
		w.fail("Connect: %d, not %d", got, want)
	}
	return want
}

func (w *words) feed(i int, s string, now int) {
	w.t.Helper()
	want := api.ErrArg
	if i >= 0 && i < len(w.l) {
		want = api.OK
		w.tick = max(w.tick, now)
		w.come(i, s)
	}
	if got := w.s.Feed(i, []byte(s), now); got != want {
		w.fail("Feed(%d, %q, %d): %d, not %d", i, s, now, got, want)
	}
}

func (w *words) come(i int, s string) {
	c := w.l[i]
	if c.shut {
		w.seen["fed when shut"] += len(s)
		return
	}
	c.in += s
	if c.isSub {
		w.frames(c)
		return
	}
	var p http.Parser
	c.items = p.Feed([]byte(c.in))
	w.requests(i)
}

// requests looks at the requests of connection i, if it speaks HTTP, and none is awaited.
func (w *words) requests(i int) {
	c := w.l[i]
	for !c.shut && !c.isSub && !c.awaits && c.looked < len(c.items) {
		x := c.items[c.looked]
		c.looked++
		if x.Code != 0 {
			w.seen["no request"]++
			w.answer(c, route.Error(x.Code), true)
		} else {
			w.request(i, x.Req)
		}
	}
}

func (w *words) request(i int, r http.Request) {
	c := w.l[i]
	a := route.Plan(r, []byte(w.key), w.tick)
	data, e := "look", api.OK
	switch a.Kind {
	case route.Refuse:
		w.seen[fmt.Sprint("refused ", a.Code)]++
		w.answer(c, route.Error(a.Code), r.Close)
		return
	case route.Events:
		w.subscribe(c, a, r)
		return
	case route.Command:
		data, e = route.Pack(a.Cmd)
	}
	if e != api.OK {
		w.seen["unpacked"]++
		w.answer(c, route.Error(400), r.Close)
		return
	}
	w.asks = append(w.asks, node.Ask{Conn: i, Data: data})
	c.awaits, c.action, c.last, c.index = true, a, r.Close, 0
}

func (w *words) subscribe(c *client, a route.Action, r http.Request) {
	upgrade, key := "", ""
	for _, h := range slices.Backward(r.Heads) {
		switch h.Name {
		case "upgrade":
			upgrade = h.Value
		case "sec-websocket-key":
			key = h.Value
		}
	}
	if strings.ToLower(upgrade) != "websocket" || key == "" {
		w.seen["no handshake"]++
		w.answer(c, route.Error(400), r.Close)
		return
	}
	w.send(c, "HTTP/1.1 101 Switching Protocols\r\nupgrade: websocket\r\nconnection: Upgrade\r\nsec-websocket-accept: "+ws.Accept(key)+"\r\n\r\n")
	c.isSub, c.user, c.from, c.in, c.looked = true, a.User, a.N, "", 0
	w.tell(c)
}

// tell sends a subscriber what they haven't been told yet.
func (w *words) tell(c *client) {
	if c.shut {
		return
	}
	l := session.Replay(w.cmds, c.user, c.from)
	for _, e := range l[c.told:] {
		c.told++
		w.seen["told"]++
		w.send(c, frame(1, `{"pos":`+strconv.Itoa(e.Pos)+`,"chan":`+strconv.Itoa(e.Chan)+`,"text":`+json.Quote(e.Text)+`}`))
	}
}

// frame is a server's frame with less than 126 bytes, or with two bytes that say how many.
func frame(op byte, payload string) string {
	if n := len(payload); n > 125 {
		return string([]byte{0x80 | op, 126, byte(n >> 8), byte(n)}) + payload
	}
	return string([]byte{0x80 | op, byte(len(payload))}) + payload
}

func (w *words) frames(c *client) {
	items := ws.NewReader(true).Feed([]byte(c.in))
	for ; c.looked < len(items) && !c.shut; c.looked++ {
		x := items[c.looked]
		w.seen[fmt.Sprint("frame ", x.Kind)]++
		switch x.Kind {
		case ws.Ping:
			w.send(c, frame(10, x.Text))
		case ws.Pong:
		case ws.Text, ws.Binary:
			w.send(c, frame(8, ws.Closing(1003, "")))
			c.shut = true
		default:
			w.send(c, frame(8, ws.Closing(x.Code, "")))
			c.shut = true
		}
	}
}

func (w *words) send(c *client, s string) {
	if c.shut {
		return
	}
	if len(c.out)+len(s) > 20000 {
		w.seen["too much"]++
		c.shut = true
		return
	}
	if len(c.out)+len(s) == 20000 {
		w.seen["just enough"]++
	}
	c.out += s
}

func (w *words) answer(c *client, a http.Answer, last bool) {
	a.Close = last
	w.send(c, string(http.Write(a)))
	c.awaits = false
	if last {
		w.seen["last"]++
		c.shut = true
	}
}

// ask holds what is to be proposed.
func (w *words) ask() []node.Ask {
	w.t.Helper()
	l := w.s.Asks()
	if !slices.Equal(l, w.asks) {
		w.fail("Asks: %+v, not %+v", l, w.asks)
	}
	w.asks = nil
	return l
}

// isOpen tells whether connection i awaits an answer and has no entry.
func (w *words) isOpen(i int) bool {
	return i >= 0 && i < len(w.l) && w.l[i].awaits && w.l[i].index == 0
}

func (w *words) accept(i, index, term int) {
	w.s.Accept(i, index, term)
	if w.isOpen(i) && index > 0 {
		w.l[i].index, w.l[i].term = index, term
		w.seen["accepted"]++
	}
}

func (w *words) reject(i, code, leader int) {
	w.s.Reject(i, code, leader)
	if !w.isOpen(i) {
		return
	}
	a := route.Error(code)
	if code == 307 {
		a.Heads = []http.Head{{Name: "x-leader", Value: strconv.Itoa(leader)}}
	}
	w.seen["rejected"]++
	w.answer(w.l[i], a, w.l[i].last)
	w.requests(i)
}

func (w *words) apply(index, term int, data string) {
	w.s.Apply(index, term, data)
	var r api.Reply
	if c, e := route.Unpack(data); e == api.OK && data != "" && data != "look" {
		w.is, r, _ = space.Apply(w.is, c)
		w.cmds = append(w.cmds, c)
		for _, x := range w.l {
			if x.isSub {
				w.tell(x)
			}
		}
	}
	for i, c := range w.l {
		if index < 1 || !c.awaits || c.index != index {
			continue
		}
		a := route.View(w.is, c.action, []byte(w.key), w.tick)
		if c.action.Kind == route.Command {
			a = route.Answer(r)
		}
		if c.term != term {
			a = route.Error(503)
		}
		w.seen[fmt.Sprint("answered ", a.Code)]++
		w.answer(c, a, c.last)
		w.requests(i)
	}
}

func (w *words) take(i int) string {
	w.t.Helper()
	b, shut := w.s.Take(i)
	want, wantShut := "", true
	if i >= 0 && i < len(w.l) {
		want, wantShut = w.l[i].out, w.l[i].shut
		w.l[i].out = ""
	}
	if string(b) != want || shut != wantShut {
		w.fail("Take(%d): %q, %v\nnot %q, %v", i, b, shut, want, wantShut)
	}
	return want
}

// hold holds all that can be seen against the words.
func (w *words) hold() {
	w.t.Helper()
	w.ask()
	for i := range w.l {
		w.take(i)
	}
	w.take(-1)
	w.take(len(w.l))
	w.holdSpace()
}

func (w *words) holdSpace() {
	w.t.Helper()
	if got, want := fmt.Sprintf("%+v", w.s.Space()), fmt.Sprintf("%+v", w.is); got != want {
		w.fail("Space: %s, not %s", got, want)
	}
}

// pick is any one of these.
func pick[T any](r *rand.Rand, l ...T) T {
	return l[r.Intn(len(l))]
}

// anyTarget is a request that a row of the table may take, and its body.
func anyTarget(r *rand.Rand) (method, target, body string) {
	n := strconv.Itoa(r.Intn(1 + r.Intn(3)))
	name := pick(r, "ann", "bob", "cid", "ok", "general", "No Name")
	text := pick(r, "hi", "hi @bob", "été", "a b c", "", `\u0001\u0002\n\"\\`, strings.Repeat("x", 24), strings.Repeat("x", 25), strings.Repeat("y", 70), strings.Repeat("z", 200))
	rows := [][3]string{
		{"POST", "/users", `{"name":"` + name + `"}`},
		{"POST", "/login", `{"name":"` + name + `"}`},
		{"POST", "/channels", `{"name":"` + name + `"}`},
		{"POST", "/channels", `{"name":"` + name + `","closed":true}`},
		{"GET", "/channels", ""},
		{"POST", "/channels/" + n + "/" + pick(r, "join", "join", "leave"), ""},
		{"POST", "/channels/" + n + "/invite", `{"user":"` + name + `"}`},
		{"GET", "/channels/" + n + "/posts", ""},
		{"POST", "/channels/" + n + "/posts", `{"text":"` + text + `"}`},
		{"POST", "/channels/" + n + "/posts", `{"text":"` + text + `"}`},
		{"POST", "/channels/" + n + "/posts", `{"text":"` + text + `","parent":` + n + `}`},
		{"POST", "/channels/" + n + "/read", `{"post":` + n + `}`},
		{"POST", "/posts/" + n + "/edit", `{"text":"` + text + `"}`},
		{"POST", "/posts/" + n + "/react", `{"name":"` + name + `"}`},
		{"POST", "/posts/" + n + "/react", `{"name":"` + name + `"}`},
		{"DELETE", "/posts/" + n, ""},
		{"GET", "/search/" + pick(r, "hi", "x", "%c3"), ""},
		{"GET", "/nothing", ""},
		{"PUT", "/users", ""},
		{"POST", "/users", `{"name":7}`},
	}
	x := pick(r, rows...)
	return x[0], x[1], x[2]
}

// anyRequest is the text of a request, mostly of one that is right.
func anyRequest(r *rand.Rand) string {
	switch r.Intn(150) {
	case 0:
		return pick(r, "get / HTTP/1.1\r\n\r\n", "GET / HTTP/1.1\r\n\r\n", strings.Repeat("x", 1024), "POST /users HTTP/1.1\r\nhost: a\r\ncontent-length: 4097\r\n\r\n")
	case 1, 2:
		return strings.Repeat("GET /nothing HTTP/1.1\r\nhost: a\r\n\r\n", r.Intn(400))
	case 3, 4, 5, 6, 7, 8, 9, 10, 11, 12, 13, 14:
		return anyHandshake(r)
	}
	method, target, body := anyTarget(r)
	heads := pick(r, "", "", "", "x-request: r"+strconv.Itoa(r.Intn(5))+"\r\n", "x-request: a|b\r\n", "x-request: "+strings.Repeat("r", 15+r.Intn(3))+"\r\n")
	if r.Intn(15) > 0 {
		heads += "authorization: Bearer " + anyToken(r) + "\r\n"
	}
	if r.Intn(25) == 0 {
		heads += "connection: close\r\n"
	}
	if body != "" {
		heads += "content-length: " + strconv.Itoa(len(body)) + "\r\n"
	}
	return method + " " + target + " HTTP/1.1\r\nHost: a\r\n" + heads + "\r\n" + body
}

func anyToken(r *rand.Rand) string {
	s, _ := session.Issue([]byte(pick(r, "k", "k", "k", "k", "k", "k", "k", "k", "other")), pick(r, "ann", "ann", "bob", "cid"), pick(r, 3, 10, 1000, 1000, 1000, 5000))
	return s
}

// anyHandshake is the text of a subscriber's request, mostly of one that is right.
func anyHandshake(r *rand.Rand) string {
	heads := "upgrade: " + pick(r, "websocket", "websocket", "WebSocket", "WEBSOCKET", "websockets", "h2c") + "\r\n"
	heads += pick(r, "sec-websocket-key: a\r\n", "Sec-WebSocket-Key: dGhlIHNhbXBsZSBub25jZQ==\r\n", "sec-websocket-key: a\r\n", "sec-websocket-key:\r\nsec-websocket-key: b\r\n", "")
	if r.Intn(10) == 0 {
		heads = "upgrade: " + pick(r, "websocket", "x") + "\r\n" + heads
	}
	if r.Intn(10) == 0 {
		heads += "connection: close\r\n"
	}
	return "GET /events/" + strconv.Itoa(r.Intn(1+r.Intn(20))) + " HTTP/1.1\r\nHost: a\r\n" + heads + "authorization: Bearer " + anyToken(r) + "\r\n\r\n"
}

// anyFrame is the bytes of a client's frame, mostly of one that doesn't end it.
func anyFrame(r *rand.Rand) string {
	f := ws.Frame{Fin: true, Op: ws.Ping, Masked: true, Mask: [4]byte{byte(r.Intn(256)), 2, 3, 4}, Payload: strings.Repeat("p", r.Intn(1+r.Intn(126)))}
	many := 1
	switch r.Intn(40) {
	case 0:
		f.Op, f.Payload = ws.Close, ws.Closing(pick(r, 1000, 1001, 1003, 3000, 4999, 1004, 1005, 5000), pick(r, "", "bye"))
	case 1:
		f.Op = pick(r, ws.Text, ws.Binary)
	case 2:
		f.Masked = r.Intn(3) > 0
	case 3:
		f.Fin, f.Op = false, ws.Text
	case 4:
		f.Fin, f.Op = true, ws.More
	case 5:
		f.Op, f.Payload = ws.Text, "\xff"
	case 6:
		f.Op = r.Intn(16)
	case 7, 8, 9:
		many = r.Intn(300)
	case 10, 11, 12, 13:
		f.Op = ws.Pong
	}
	b, _ := ws.Encode(f)
	return strings.Repeat(string(b), many)
}

// entry is one that was proposed.
type entry struct {
	term int
	data string
}

// storm is what the outer world does with a server: clients whose bytes come in pieces, and a log.
type storm struct {
	*words
	r       *rand.Rand
	pending []string // of each connection: what comes in next
	isSub   []bool   // of each connection: does what comes in next come of a subscriber?
	known   []node.Ask
	log     []entry
	applied int
	hasty   bool // what waits to go out is seldom taken
}

// bytes lets some bytes come in on a connection.
func (x *storm) bytes() {
	r := x.r
	if len(x.l) == 0 {
		return
	}
	i := r.Intn(len(x.l))
	if x.l[i].isSub != x.isSub[i] && r.Intn(10) > 0 { // else the rest of what it said ahead comes in as frames
		x.pending[i] = ""
	}
	x.isSub[i] = x.l[i].isSub
	for len(x.pending[i]) == 0 || r.Intn(3) == 0 {
		if x.isSub[i] {
			x.pending[i] += anyFrame(r)
		} else {
			x.pending[i] += anyRequest(r)
		}
	}
	n := len(x.pending[i])
	if r.Intn(3) == 0 {
		n = r.Intn(n + 1)
	}
	x.feed(i, x.pending[i][:n], pick(r, 0, 0, -5, x.tick, x.tick+r.Intn(2)))
	x.pending[i] = x.pending[i][n:]
}

// anyIndex is mostly one of an entry.
func (x *storm) anyIndex() int {
	return pick(x.r, 0, -1, 1, x.applied, x.applied+1, x.r.Intn(len(x.log)+2), 1<<63-1, -1<<63)
}

func (x *storm) anyData() string {
	return pick(x.r, "", "look", "x", "1|0|-1|||ann", "1|0|-1|||bob", "2|0|-1||ann|general", "3|0|-1||bob|", "6|0|-1||bob|hi", "9|0|0||ann|ok", "1|0", "11|0|0||ann|", "9|0|0|r9|ann|ok", "1|00|0|||cid")
}

// propose lets an ask that was told come to an entry, or be rejected; or something be accepted or rejected of which nobody asked it.
func (x *storm) propose() {
	r := x.r
	if len(x.known) == 0 || r.Intn(12) == 0 {
		if r.Intn(2) == 0 {
			x.accept(r.Intn(len(x.l)+2)-1, x.anyIndex(), r.Intn(3))
		} else {
			x.reject(r.Intn(len(x.l)+2)-1, pick(r, 307, 503, 507, 0), r.Intn(9)-1)
		}
		return
	}
	a := x.known[0]
	x.known = x.known[1:]
	if r.Intn(10) == 0 {
		x.reject(a.Conn, pick(r, 307, 503, 507), r.Intn(3))
		return
	}
	x.log = append(x.log, entry{1 + len(x.log)/20, a.Data})
	x.accept(a.Conn, len(x.log), x.log[len(x.log)-1].term)
}

// commit lets the next entry be applied, or another one.
func (x *storm) commit() {
	r := x.r
	if x.applied == len(x.log) || r.Intn(15) == 0 {
		x.apply(x.anyIndex(), r.Intn(3), x.anyData())
		return
	}
	e := x.log[x.applied]
	x.applied++
	if r.Intn(15) == 0 {
		e = entry{e.term + 1, x.anyData()}
	}
	x.apply(x.applied, e.term, e.data)
}

func (x *storm) step() {
	r := x.r
	switch k := r.Intn(100); {
	case k < 3 && len(x.l) < 20:
		x.connect()
		x.pending, x.isSub = append(x.pending, ""), append(x.isSub, false)
	case k < 40:
		x.bytes()
	case k < 50:
		x.known = append(x.known, x.ask()...)
	case k < 70:
		x.propose()
	case k < 92:
		x.commit()
	case k < 95 && (!x.hasty || r.Intn(40) == 0):
		x.take(r.Intn(len(x.l)+2) - 1)
	case k < 96:
		x.holdSpace()
	case k < 97:
		x.feed(pick(r, -1, len(x.l), 1<<63-1, -1<<63), "GET / HTTP/1.1\r\n\r\n", x.tick+1)
	}
}

// TestP25_1Any: any rows of calls against the words.
func TestP25_1Any(t *testing.T) {
	seen := map[string]int{}
	for seed := range 300 {
		r := rand.New(rand.NewSource(int64(seed)))
		x := &storm{words: begin(t, fmt.Sprint("seed ", seed), "k"), r: r, hasty: r.Intn(2) == 0}
		for _, data := range []string{"1|0|-1|||ann", "1|0|-1|||bob", "2|0|-1||ann|general", "2|1|-1||bob|secret", "3|0|-1||bob|", "6|0|-1||ann|hi"}[:r.Intn(7)] {
			x.apply(0, 0, data)
		}
		for range 600 {
			x.step()
		}
		x.hold()
		for k, n := range x.seen {
			seen[k] += n
		}
	}
	for _, k := range []string{"told", "too much", "last", "no request", "no handshake", "unpacked", "accepted", "rejected", "fed when shut",
		"refused 400", "refused 401", "refused 404", "refused 405", "answered 0", "answered 200", "answered 400", "answered 403", "answered 404", "answered 409", "answered 503",
		"frame 0", "frame 1", "frame 2", "frame 8", "frame 9", "frame 10"} {
		if seen[k] < 20 {
			t.Errorf("%s: %d times", k, seen[k])
		}
	}
}

package world_test

import (
	"fmt"
	"math"
	"strconv"
	"strings"
	"testing"
	"unsafe"

	"parley/api"
	"parley/cluster"
	"parley/raft"
	"parley/session"
	"parley/world"
	"parley/ws"
)

func check(t *testing.T, what string, got, want any) {
	t.Helper()
	if g, w := fmt.Sprintf("%+v", got), fmt.Sprintf("%+v", want); g != w {
		t.Errorf("%s: %.1000s, not %.1000s", what, g, w)
	}
}

const secret = "k"

// auth is the field that says that a request is a user's.
func auth(user string) string {
	return until(user, 1000)
}

func until(user string, tick int) string {
	s, _ := session.Issue([]byte(secret), user, tick)
	return "authorization: Bearer " + s
}

// text is the text of a request.
func text(method, target, body string, heads ...string) string {
	s := method + " " + target + " HTTP/1.1\r\nhost: a\r\n"
	for _, h := range heads {
		s += h + "\r\n"
	}
	if body != "" {
		s += "content-length: " + strconv.Itoa(len(body)) + "\r\n"
	}
	return s + "\r\n" + body
}

func addUser(name string, heads ...string) string {
	return text("POST", "/users", `{"name":"`+name+`"}`, heads...)
}

const (
	nothing  = "GET /nothing HTTP/1.1\r\nhost: a\r\n\r\n"
	no404    = "HTTP/1.1 404 Not Found\r\ncontent-length: 13\r\n\r\n{\"error\":404}"
	no503    = "HTTP/1.1 503 Service Unavailable\r\ncontent-length: 13\r\n\r\n{\"error\":503}"
	no507    = "HTTP/1.1 507 Insufficient Storage\r\ncontent-length: 13\r\n\r\n{\"error\":507}"
	switched = "HTTP/1.1 101 Switching Protocols\r\nupgrade: websocket\r\nconnection: Upgrade\r\nsec-websocket-accept: s3pPLMBiTxaQ9kYGzzhZRbK+xOo=\r\n\r\n"
)

func good(body string) string {
	return "HTTP/1.1 200 OK\r\ncontent-length: " + strconv.Itoa(len(body)) + "\r\n\r\n" + body
}

// ok is the answer to a command that is done.
func ok(body string) string {
	return good(`{"ok":"` + body + `"}`)
}

// moved is the answer of a node that knows who leads.
func moved(leader int) string {
	return "HTTP/1.1 307 Temporary Redirect\r\nx-leader: " + strconv.Itoa(leader) + "\r\ncontent-length: 13\r\n\r\n{\"error\":307}"
}

// events is the text of a subscriber's request.
func events(user string, from int) string {
	return text("GET", "/events/"+strconv.Itoa(from), "", "upgrade: websocket", "sec-websocket-key: dGhlIHNhbXBsZSBub25jZQ==", auth(user))
}

// told is the frame that tells an event.
func told(pos, ch int, text string) string {
	payload := fmt.Sprintf(`{"pos":%d,"chan":%d,"text":%q}`, pos, ch, text)
	return "\x81" + string(byte(len(payload))) + payload
}

// say lets bytes come in on a connection.
func (w *words) say(k int, s string) {
	w.t.Helper()
	if _, e := w.do(cluster.Event{Kind: world.Bytes, Pick: k, Data: s}); e != api.OK {
		w.fail("Bytes on %d: %d", k, e)
	}
}

// meet answers a new connection with a node.
func (w *words) meet(i int) int {
	w.t.Helper()
	k, e := w.do(cluster.Event{Kind: world.Connect, Node: i})
	if e != api.OK {
		w.fail("Connect with %d: %d", i, e)
	}
	return k
}

func (w *words) tick(i int) {
	w.t.Helper()
	w.do(cluster.Event{Kind: cluster.Tick, Node: i})
}

// sent holds all that went out on a connection.
func (w *words) sent(k int, want string, shut bool) {
	w.t.Helper()
	b, is := w.w.Sent(k)
	if string(b) != want || is != shut {
		w.t.Errorf("%s: connection %d: %.500q, %v\nnot %.500q, %v", w.what, k, b, is, want, shut)
	}
}

// alone is a node that leads, and has no other one; ten events have happened.
func alone(t *testing.T, blocks int) *words {
	t.Helper()
	w := begin(t, "one node", 1, blocks)
	for range 10 {
		w.tick(0)
	}
	if w.leads() != 0 {
		w.fail("it doesn't lead")
	}
	return w
}

// led is nodes of which one leads: that, and the next one.
func led(t *testing.T, n, blocks int) (w *words, leader, other int) {
	t.Helper()
	w = begin(t, fmt.Sprint(n, " nodes"), n, blocks)
	w.calm(40)
	leader = w.leads()
	if leader < 0 {
		w.fail("nobody leads")
	}
	return w, leader, (leader + 1) % n
}

func TestP26_2Examples(t *testing.T) {
	w, leader, other := led(t, 3, 300)
	c, d := w.meet(leader), w.meet(other)
	check(t, "connections", []int{c, d}, "[0 1]")
	w.say(c, addUser("ann"))
	w.say(d, addUser("ann"))
	w.sent(c, "", false)
	w.sent(d, moved(leader), false)
	w.calm(6)
	w.sent(c, ok("0"), false)
	w.sent(d, moved(leader), false)
	l := w.w.Answers()
	check(t, "how many answers", len(l), 1)
	check(t, "the answer", []any{l[0].Conn, l[0].Ask, l[0].Index, l[0].Term, l[0].Data}, []any{0, 0, 2, w.w.View(leader).Raft.Term, "1|0|-1|||ann"})
	for i := range 3 {
		check(t, "users", w.w.Space(i).Users, "[ann]")
		check(t, "Applied", w.w.Applied(i), 2)
	}
	w.promises()
}

// TestP26_2Power: the leader's power goes out ahead of the answer.
func TestP26_2Power(t *testing.T) {
	for writes := range 30 {
		w, leader, _ := led(t, 3, 300)
		k := w.meet(leader)
		w.do(cluster.Event{Kind: cluster.Arm, Node: leader, Pick: writes})
		w.say(k, nothing)
		w.say(k, nothing+addUser("ann", "x-request: r1"))
		if w.w.View(leader).Up {
			check(t, "writes", writes > 3, true)
			w.calm(6)
			w.sent(k, no404+no404+ok("0"), false)
			w.promises()
			return
		}
		w.sent(k, no404, true)
		w.say(k, nothing)
		w.sent(k, no404, true)
		w.calm(60)
		next := w.leads()
		check(t, "another one leads", next >= 0 && next != leader, true)
		again := w.meet(next)
		w.say(again, addUser("ann", "x-request: r1"))
		w.calm(6)
		w.sent(again, ok("0"), false)
		check(t, "users", w.w.Space(next).Users, "[ann]")
		w.do(cluster.Event{Kind: cluster.Restart, Node: leader})
		w.sent(k, no404, true)
		w.calm(60)
		check(t, "users", w.w.Space(leader).Users, "[ann]")
		w.promises()
	}
	t.Error("the power goes out whatever it is")
}

func TestP26_1Constants(t *testing.T) {
	check(t, "kinds", []int{world.Connect, world.Bytes}, "[7 8]")
	check(t, "MaxConns", world.MaxConns, 64)
}

func TestP26_1New(t *testing.T) {
	for _, x := range []struct{ n, blocks int }{{0, 100}, {-1, 100}, {8, 100}, {math.MaxInt, 100}, {math.MinInt, 100}, {3, 69}, {3, 0}, {3, -1}, {3, 2049}, {3, math.MaxInt}, {0, 0}} {
		w, e := world.New(x.n, x.blocks, []byte(secret))
		check(t, fmt.Sprint("New of ", x), []any{w == nil, e}, "[true 1]")
	}
	for _, x := range []struct{ n, blocks int }{{1, 70}, {7, 2048}} {
		w, e := world.New(x.n, x.blocks, nil)
		check(t, fmt.Sprint("New of ", x), []any{w.Nodes(), e}, []any{x.n, 0})
		for i := range x.n {
			v := w.View(i)
			check(t, "a node", []any{v.Up, v.Raft.Self, v.Raft.Term, w.Applied(i), w.Space(i)}, []any{true, i, 0, 0, api.Space{}})
		}
		check(t, "Answers", len(w.Answers()), 0)
	}
}

// TestP26_1Nobody: nodes and connections that there aren't.
func TestP26_1Nobody(t *testing.T) {
	w := alone(t, 100)
	k := w.meet(0)
	w.say(k, addUser("ann"))
	for _, i := range []int{-1, 1, 64, math.MaxInt, math.MinInt} {
		check(t, "View", w.w.View(i), cluster.View{})
		check(t, "Space", w.w.Space(i), api.Space{})
		check(t, "Applied", w.w.Applied(i), 0)
		w.sent(i, "", true)
		for _, kind := range []int{cluster.Tick, cluster.Arm, cluster.Restart, cluster.Propose, world.Connect} {
			n, e := w.do(cluster.Event{Kind: kind, Node: i, Data: "x"})
			check(t, fmt.Sprint("kind ", kind), []any{n, e}, "[0 1]")
		}
		n, e := w.do(cluster.Event{Kind: world.Bytes, Pick: i, Data: nothing})
		check(t, "Bytes", []any{n, e}, "[0 1]")
	}
	for _, kind := range []int{-1, 9, 10, math.MaxInt, math.MinInt} {
		n, e := w.do(cluster.Event{Kind: kind, Data: nothing})
		check(t, fmt.Sprint("kind ", kind), []any{n, e}, "[0 1]")
	}
	w.sent(k, ok("0"), false)
}

// TestP26_1Propose: nobody proposes but clients.
func TestP26_1Propose(t *testing.T) {
	w := alone(t, 100)
	for _, data := range []string{"x", "", "1|0|-1|||ann", strings.Repeat("x", 81)} {
		n, e := w.do(cluster.Event{Kind: cluster.Propose, Data: data})
		check(t, data, []any{n, e, len(w.w.View(0).Raft.Log), w.w.Applied(0)}, "[0 1 1 1]")
	}
}

// TestP26_1Connect: with a node that is up, 64 in all.
func TestP26_1Connect(t *testing.T) {
	w := begin(t, "two nodes", 2, 100)
	for k := range 64 {
		check(t, "Connect", w.meet(k%2), k)
		if k == 20 {
			w.do(cluster.Event{Kind: cluster.Restart, Node: 0})
		}
	}
	w.sent(63, "", false)
	for i := range 2 {
		n, e := w.do(cluster.Event{Kind: world.Connect, Node: i})
		check(t, "one more", []any{n, e}, "[0 2]")
	}
	for k := range 64 {
		w.say(k, nothing)
		if k%2 == 0 && k <= 20 {
			w.sent(k, "", true)
		} else {
			w.sent(k, no404, false)
		}
	}
	w.do(cluster.Event{Kind: cluster.Arm, Node: 1})
	for range 20 {
		w.tick(1)
	}
	n, e := w.do(cluster.Event{Kind: world.Connect, Node: 1})
	check(t, "of one that is down", []any{n, e}, "[0 9]")
	n, e = w.do(cluster.Event{Kind: world.Connect, Node: 2})
	check(t, "of none", []any{n, e}, "[0 1]")
	n, e = w.do(cluster.Event{Kind: world.Connect, Node: 0})
	check(t, "of one that is up", []any{n, e}, "[0 2]")
}

// TestP26_1Down: of a node that is down nothing is left, until it comes back.
func TestP26_1Down(t *testing.T) {
	w := alone(t, 100)
	a, b := w.meet(0), w.meet(0)
	w.say(a, addUser("ann"))
	w.do(cluster.Event{Kind: cluster.Arm})
	w.say(a, addUser("bob"))
	check(t, "View", w.w.View(0), cluster.View{})
	check(t, "Space", w.w.Space(0), api.Space{})
	check(t, "Applied", w.w.Applied(0), 0)
	w.sent(a, ok("0"), true)
	w.sent(b, "", true)
	for _, kind := range []int{cluster.Tick, cluster.Arm, world.Connect} {
		n, e := w.do(cluster.Event{Kind: kind})
		check(t, fmt.Sprint("kind ", kind), []any{n, e}, "[0 9]")
	}
	w.say(a, nothing)
	w.say(b, nothing)
	w.do(cluster.Event{Kind: cluster.Restart, Tear: -1})
	check(t, "Applied", w.w.Applied(0), 0) // it knows of nothing that is committed yet
	for range 10 {
		w.tick(0)
	}
	check(t, "users", w.w.Space(0).Users[0], "ann")
	check(t, "Applied", w.w.Applied(0) >= 3, true)
	c := w.meet(0)
	check(t, "connection", c, 2)
	w.say(c, nothing)
	w.sent(a, ok("0"), true)
	w.sent(b, "", true)
	w.sent(c, no404, false)
	w.promises()
}

// TestP26_1Restart: the connections of a node that starts again are shut, only those.
func TestP26_1Restart(t *testing.T) {
	w, leader, other := led(t, 3, 100)
	a, b := w.meet(leader), w.meet(other)
	w.say(a, addUser("ann"))
	w.calm(4)
	w.do(cluster.Event{Kind: cluster.Restart, Node: other})
	check(t, "Applied", w.w.Applied(other), 0)
	check(t, "Space", w.w.Space(other), api.Space{})
	w.say(a, nothing)
	w.say(b, nothing)
	w.sent(a, ok("0")+no404, false)
	w.sent(b, "", true)
	c := w.meet(other)
	w.say(c, nothing)
	w.sent(c, no404, false)
	w.calm(4)
	check(t, "users", w.w.Space(other).Users, "[ann]")
	w.sent(b, "", true)
}

// TestP26_1Events: from which event to which an ask takes; all events count, also such as are refused, and those of Calm.
func TestP26_1Events(t *testing.T) {
	w := alone(t, 100)                                 // 1 to 10
	k := w.meet(0)                                     // 11
	w.do(cluster.Event{Kind: 99})                      // 12
	w.do(cluster.Event{Kind: cluster.Tick, Node: -1})  // 13
	w.say(k, addUser("ann")+nothing+addUser("bob"))    // 14
	w.w.Calm(3)                                        // 15 to 17
	w.w.Do(cluster.Event{Kind: cluster.Arrive})        // 18
	w.w.Do(cluster.Event{Kind: world.Bytes, Pick: -1}) // 19
	w.w.Do(cluster.Event{Kind: world.Bytes, Data: text("GET", "/channels", "", auth("ann"))})
	check(t, "Answers", w.w.Answers(), []world.Answer{
		{Conn: 0, Ask: 0, Index: 2, Term: 1, Data: "1|0|-1|||ann", Begin: 14, End: 14},
		{Conn: 0, Ask: 1, Index: 3, Term: 1, Data: "1|0|-1|||bob", Begin: 14, End: 14},
		{Conn: 0, Ask: 2, Index: 4, Term: 1, Data: "look", Begin: 20, End: 20},
	})
	w.w.Calm(0)
	w.w.Calm(-1)
	w.w.Calm(math.MinInt)
	w.w.Do(cluster.Event{Kind: world.Bytes, Data: addUser("cid")})
	l := w.w.Answers()
	check(t, "the last one", l[len(l)-1], world.Answer{Ask: 3, Index: 5, Term: 1, Data: "1|0|-1|||cid", Begin: 21, End: 21})
}

// TestP26_1Between: an ask takes from the event in which it comes in to that in which its entry is applied there.
func TestP26_1Between(t *testing.T) {
	w, leader, other := led(t, 3, 100)
	k := w.meet(leader)
	w.say(k, addUser("ann"))
	begun := w.count
	check(t, "under way", w.c.Way(), 2)
	w.tick(other)
	for len(w.w.Answers()) == 0 && w.c.Way() > 0 {
		w.do(cluster.Event{Kind: cluster.Arrive})
	}
	check(t, "Answers", w.w.Answers(), []world.Answer{{Index: 2, Term: w.w.View(leader).Raft.Term, Data: "1|0|-1|||ann", Begin: begun, End: w.count}})
	check(t, "between", w.count-begun, 4)
}

// TestP26_1Asks: which of a connection's asks it is: rejected ones counted, requests of which none is asked not.
func TestP26_1Asks(t *testing.T) {
	w := begin(t, "one node", 1, 100)
	k, other := w.meet(0), w.meet(0)
	w.say(k, addUser("ann")+nothing+addUser("bob"))
	w.sent(k, no503+no404+no503, false)
	for range 10 {
		w.tick(0)
	}
	w.say(k, nothing+"GET /channels HTTP/1.1\r\nhost: a\r\n\r\n"+addUser("cid"))
	w.say(other, addUser("dan"))
	w.say(k, addUser("eva"))
	var l [][3]int
	for _, a := range w.w.Answers() {
		l = append(l, [3]int{a.Conn, a.Ask, a.Index})
	}
	check(t, "Answers", l, "[[0 2 2] [1 0 3] [0 3 4]]")
	w.promises()
}

// TestP26_2Codes: who leads is told, if it is known.
func TestP26_2Codes(t *testing.T) {
	w, leader, other := led(t, 3, 100)
	k := w.meet(other)
	w.say(k, addUser("ann")+text("GET", "/channels", "", auth("ann"))+nothing+addUser("ann", "connection: close")+nothing)
	last := strings.Replace(moved(leader), "\r\n\r\n", "\r\nconnection: close\r\n\r\n", 1)
	w.sent(k, moved(leader)+moved(leader)+no404+last, true)
	w.do(cluster.Event{Kind: cluster.Restart, Node: other})
	k = w.meet(other)
	w.say(k, addUser("ann"))
	w.sent(k, no503, false)
	check(t, "Answers", len(w.w.Answers()), 0)
	check(t, "entries", len(w.w.View(leader).Raft.Log), 1)
}

// TestP26_2Full: behind the last entry for which a log has room nothing more can be asked.
func TestP26_2Full(t *testing.T) {
	w := alone(t, 1000)
	k := w.meet(0)
	want := ""
	for range 19 {
		w.say(k, strings.Repeat(text("GET", "/channels", "", auth("ann")), 21))
		want += strings.Repeat("HTTP/1.1 403 Forbidden\r\ncontent-length: 13\r\n\r\n{\"error\":403}", 21)
	}
	w.sent(k, want, false)
	check(t, "Applied", w.w.Applied(0), 400)
	w.say(k, addUser("ann")+nothing+text("GET", "/channels", "", auth("ann")))
	w.sent(k, want+no507+no404+no507, false)
	check(t, "users", len(w.w.Space(0).Users), 0)
	check(t, "Answers", len(w.w.Answers()), 399)
}

// TestP26_2SameEvent: what was answered in the event in which the node goes down doesn't go out.
func TestP26_2SameEvent(t *testing.T) {
	vain, whole := 0, 0
	for writes := range 40 {
		w := alone(t, 100)
		k, other := w.meet(0), w.meet(0)
		w.say(other, addUser("ann"))
		w.do(cluster.Event{Kind: cluster.Arm, Pick: writes})
		w.say(k, nothing+addUser("bob", "x-request: r")+addUser("cid", "x-request: s"))
		vain += w.seen["answered in vain"]
		if w.w.View(0).Up {
			whole++
			w.sent(k, no404+ok("1")+ok("2"), false)
			check(t, "Answers", len(w.w.Answers()), 3)
			continue
		}
		w.sent(k, "", true)
		w.sent(other, ok("0"), true)
		check(t, "Answers", len(w.w.Answers()), 1)
		w.do(cluster.Event{Kind: cluster.Restart, Draw: 1, Keep: math.MaxUint64})
		for range 20 {
			w.tick(0)
		}
		next := w.meet(0)
		w.say(next, addUser("bob", "x-request: r")+addUser("cid", "x-request: s"))
		w.sent(next, ok("1")+ok("2"), false)
		check(t, "users", w.w.Space(0).Users, "[ann bob cid]")
		w.promises()
	}
	check(t, "in vain, whole", vain > 2 && whole > 2, true)
}

// TestP26_2AnotherTerm: an entry that a later leader has put another one for is answered 503.
func TestP26_2AnotherTerm(t *testing.T) {
	w, leader, other := led(t, 3, 100)
	k := w.meet(leader)
	w.say(k, addUser("ann"))
	for w.c.Way() > 0 {
		w.do(cluster.Event{Kind: cluster.Lose})
	}
	for w.w.View(other).Raft.Role != raft.Leader {
		w.tick(other)
		for w.c.Way() > 0 {
			w.do(cluster.Event{Kind: cluster.Arrive})
		}
	}
	w.calm(3)
	w.sent(k, no503, false)
	check(t, "Answers", len(w.w.Answers()), 0)
	check(t, "users", len(w.w.Space(leader).Users), 0)
	w.say(k, addUser("ann"))
	w.sent(k, no503+moved(other), false)
	next := w.meet(other)
	w.say(next, addUser("ann"))
	w.calm(3)
	w.sent(next, ok("0"), false)
	check(t, "the answer", []int{w.w.Answers()[0].Index, w.w.Answers()[0].Conn}, "[3 1]")
	w.promises()
}

// TestP26_2Follow: subscribers with any node are sent their events, whatever restarts.
func TestP26_2Follow(t *testing.T) {
	w, leader, other := led(t, 3, 200)
	k, far, near := w.meet(leader), w.meet(other), w.meet(leader)
	w.say(far, events("ann", 0))
	w.sent(far, switched, false)
	w.say(k, addUser("ann")+text("POST", "/channels", `{"name":"general"}`, auth("ann"))+text("POST", "/channels/0/posts", `{"text":"hi"}`, auth("ann")))
	w.calm(12)
	w.say(k, text("POST", "/posts/0/react", `{"name":"ok"}`, auth("ann")))
	w.say(near, events("ann", 3))
	w.sent(near, switched, false)
	w.calm(4)
	w.sent(k, ok("0")+ok("0")+ok("0")+ok("1"), false)
	w.sent(far, switched+told(3, 0, "post 0 ann hi")+told(4, 0, "react 0 ann ok"), false)
	w.sent(near, switched+told(4, 0, "react 0 ann ok"), false)
	w.do(cluster.Event{Kind: cluster.Restart, Node: other})
	w.sent(far, switched+told(3, 0, "post 0 ann hi")+told(4, 0, "react 0 ann ok"), true)
	far = w.meet(other)
	w.say(far, events("ann", 3))
	w.sent(far, switched, false)
	w.calm(4)
	w.sent(far, switched+told(4, 0, "react 0 ann ok"), false)
	b, _ := ws.Encode(ws.Frame{Fin: true, Op: ws.Close, Masked: true})
	w.say(far, string(b))
	w.say(k, text("DELETE", "/posts/0", "", auth("ann")))
	w.calm(4)
	w.sent(far, switched+told(4, 0, "react 0 ann ok")+"\x88\x00", true)
	w.sent(near, switched+told(4, 0, "react 0 ann ok")+told(5, 0, "delete 0"), false)
	w.promises()
}

// TestP26_2Pieces: a request that comes in in pieces of one byte, and one whose body is too great.
func TestP26_2Pieces(t *testing.T) {
	w := alone(t, 100)
	k := w.meet(0)
	for _, c := range []byte(addUser("ann", "x-filler: "+strings.Repeat("x", 200))) {
		w.sent(k, "", false)
		w.say(k, string(c))
	}
	w.sent(k, ok("0"), false)
	w.say(k, "POST /users HTTP/1.1\r\nhost: a\r\ncontent-length: 4097\r\n\r\n")
	w.say(k, nothing)
	w.sent(k, ok("0")+"HTTP/1.1 413 Content Too Large\r\ncontent-length: 13\r\nconnection: close\r\n\r\n{\"error\":413}", true)
}

// TestP26_2Again: a request with one name is done once.
func TestP26_2Again(t *testing.T) {
	w := alone(t, 100)
	k := w.meet(0)
	w.say(k, addUser("ann")+addUser("ann")+addUser("bob", "x-request: r1")+addUser("bob", "x-request: r1"))
	w.sent(k, ok("0")+"HTTP/1.1 409 Conflict\r\ncontent-length: 13\r\n\r\n{\"error\":409}"+ok("1")+ok("1"), false)
	check(t, "users", w.w.Space(0).Users, "[ann bob]")
}

// TestP26_2MaxOut: what goes out with an event doesn't wait for the next one; more than may wait within one event shuts the connection.
func TestP26_2MaxOut(t *testing.T) {
	w := alone(t, 100)
	k, other := w.meet(0), w.meet(0)
	many := 20000 / len(no404)
	for n := range 3 {
		w.say(k, strings.Repeat(nothing, many))
		w.sent(k, strings.Repeat(no404, (n+1)*many), false)
	}
	w.say(k, strings.Repeat(nothing, many+1)+addUser("ann"))
	w.sent(k, strings.Repeat(no404, 4*many), true)
	w.say(other, strings.Repeat(nothing, many)+addUser("bob")+addUser("cid"))
	w.sent(other, strings.Repeat(no404, many)+ok("0"), true)
	check(t, "Answers", len(w.w.Answers()), 2) // both were applied while the connection was not shut
	w.say(other, nothing)
}

// TestP26_2Tick: the servers' tick is 0 always.
func TestP26_2Tick(t *testing.T) {
	w := alone(t, 100)
	k := w.meet(0)
	w.say(k, addUser("ann"))
	w.calm(100)
	w.say(k, text("GET", "/channels", "", until("ann", 1))+text("POST", "/login", `{"name":"ann"}`)+text("GET", "/channels", "", until("ann", 0)))
	token, _ := session.Issue([]byte(secret), "ann", 1000)
	w.sent(k, ok("0")+good(`{"channels":[]}`)+good(`{"token":"`+token+`"}`)+"HTTP/1.1 401 Unauthorized\r\ncontent-length: 13\r\n\r\n{\"error\":401}", false)
}

// TestP26_2Late: an entry that is committed at a node that leads no more is answered there all the same.
func TestP26_2Late(t *testing.T) {
	w, leader, other := led(t, 3, 100)
	k := w.meet(leader)
	w.say(k, addUser("ann"))
	w.do(cluster.Event{Kind: cluster.Arrive}) // one of the others has the entry
	w.do(cluster.Event{Kind: cluster.Arrive}) // and so has the other one
	for w.c.Way() > 0 {
		w.do(cluster.Event{Kind: cluster.Lose}) // what they say is lost
	}
	for w.w.View(other).Raft.Role != raft.Leader {
		w.tick(other)
		for w.c.Way() > 0 {
			w.do(cluster.Event{Kind: cluster.Arrive})
		}
	}
	w.calm(3)
	w.sent(k, ok("0"), false)
	check(t, "Answers", len(w.w.Answers()), 1)
	w.promises()
}

// bytesOf is a text, and the bytes that it stands on.
func bytesOf(s string) (string, []byte) {
	b := []byte(s)
	return unsafe.String(unsafe.SliceData(b), len(b)), b
}

// spoil writes over bytes and the room behind them.
func spoil(b []byte) {
	b = b[:cap(b)]
	for i := range b {
		b[i] = '#'
	}
}

// TestP26_1Kept: what is handed in isn't changed or kept.
func TestP26_1Kept(t *testing.T) {
	key := append([]byte(secret), "|||"...)[:1]
	w, _ := world.New(1, 100, key)
	check(t, "the key", string(key[:4]), "k|||")
	spoil(key)
	w.Calm(10)
	w.Do(cluster.Event{Kind: world.Connect})
	say := func(s string) {
		t.Helper()
		data, b := bytesOf(s)
		w.Do(cluster.Event{Kind: world.Bytes, Data: data})
		check(t, "the bytes", string(b), s)
		spoil(b)
	}
	say(addUser("ann", "x-request: r1"))
	say(nothing[:10])
	say(nothing[10:])
	say(text("GET", "/channels", "", auth("ann")))
	b, shut := w.Sent(0)
	check(t, "Sent", []any{string(b), shut}, []any{ok("0") + no404 + good(`{"channels":[]}`), false})
	check(t, "Space", w.Space(0), "{Users:[ann] Chans:[] Posts:[] Marks:[] Seens:[] Done:[{Req:r1 Reply:{Code:200 Body:0}}] Pos:1}")
	check(t, "Data", w.Answers()[0].Data, "1|0|-1|r1||ann")
	check(t, "Log", w.View(0).Raft.Log, "[{Term:1 Data:} {Term:1 Data:1|0|-1|r1||ann} {Term:1 Data:look}]")
	w.Do(cluster.Event{Kind: cluster.Restart})
	w.Do(cluster.Event{Kind: world.Connect})
	w.Calm(20)
	w.Do(cluster.Event{Kind: world.Bytes, Pick: 1, Data: text("GET", "/channels", "", auth("ann"))})
	b, _ = w.Sent(1)
	check(t, "of a later server", string(b), good(`{"channels":[]}`))
}

// TestP26_1Memory: what is answered is new memory.
func TestP26_1Memory(t *testing.T) {
	w := alone(t, 100)
	k, other := w.meet(0), w.meet(0)
	w.say(k, addUser("ann")+text("POST", "/channels", `{"name":"general"}`, auth("ann"), "x-request: r"))
	spaceOf := fmt.Sprintf("%+v", w.w.Space(0))
	x := w.w.Space(0)
	x.Users[0], x.Chans[0].Name, x.Chans[0].Members[0], x.Done[0].Req = "x", "x", 9, "x"
	x.Users = append(x.Users, "x")
	check(t, "Space", w.w.Space(0), spaceOf)
	v := w.w.View(0)
	v.Raft.Log[0].Data, v.Raft.Next[0], v.Raft.Votes[0] = "x", 99, false
	b, _ := w.w.Sent(k)
	spoil(b)
	l := w.w.Answers()
	for i := range l[:cap(l)] {
		l[:cap(l)][i] = world.Answer{Conn: 99}
	}
	w.say(other, addUser("bob")) // holds all of it against the words
	w.say(k, nothing)
	w.sent(k, ok("0")+ok("0")+no404, false)
	check(t, "Space", strings.Contains(fmt.Sprint(w.w.Space(0)), "x"), false)
	w.promises()
}

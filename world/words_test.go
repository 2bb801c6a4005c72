package world_test

import (
	"fmt"
	"math/rand"
	"slices"
	"strconv"
	"strings"
	"testing"

	"parley/api"
	"parley/cluster"
	"parley/http"
	"parley/node"
	"parley/raft"
	"parley/route"
	"parley/session"
	"parley/space"
	"parley/world"
	"parley/ws"
)

// client is a connection as the words have it; sent is all that came in while it wasn't shut.
type client struct {
	node, at  int
	server    *node.Server
	sent, out string
	shut      bool
	asks      int
}

// ask is one that was accepted, and hasn't been answered.
type ask struct {
	world.Answer
	server *node.Server
}

// words is a world beside one that goes by the document's words, on a cluster and on servers of its own.
type words struct {
	t       *testing.T
	what    string
	w       *world.World
	c       *cluster.Cluster
	key     string
	servers []*node.Server // nil: gone
	applied []int
	l       []*client
	open    []*ask
	answers []world.Answer
	count   int
	row     []api.Entry    // what is committed, of all nodes at any time
	seen    map[string]int // how often what happened
}

func begin(t *testing.T, what string, n, blocks int) *words {
	t.Helper()
	w, e := world.New(n, blocks, []byte(secret))
	c, e2 := cluster.New(n, blocks)
	if e != api.OK || e2 != api.OK {
		t.Fatalf("%s: New: %d, %d", what, e, e2)
	}
	x := &words{t: t, what: what, w: w, c: c, key: secret, applied: make([]int, n), seen: map[string]int{}}
	for range n {
		x.servers = append(x.servers, node.New([]byte(secret)))
	}
	x.hold("at the beginning")
	return x
}

func (w *words) fail(form string, args ...any) {
	w.t.Helper()
	w.t.Fatalf("%s, event %d: %.3000s", w.what, w.count, fmt.Sprintf(form, args...))
}

// do lets an event happen to both.
func (w *words) do(e cluster.Event) (int, api.Errno) {
	w.t.Helper()
	behind := fmt.Sprintf("%+v", e)
	want, wantErr := w.step(e)
	got, err := w.w.Do(e)
	if got != want || err != wantErr {
		w.fail("%s: %d, error %d, not %d, %d", behind, got, err, want, wantErr)
	}
	w.hold(behind)
	return got, err
}

// step lets an event happen by the words alone.
func (w *words) step(e cluster.Event) (int, api.Errno) {
	w.count++
	number, err := w.happen(e)
	answers := len(w.answers)
	for w.round() {
	}
	w.answers = slices.Concat(w.answers[:answers], slices.DeleteFunc(slices.Clone(w.answers[answers:]), func(a world.Answer) bool {
		gone := w.servers[w.l[a.Conn].node] != w.l[a.Conn].server
		if gone {
			w.seen["answered in vain"]++
		}
		return gone
	}))
	for _, c := range w.l {
		if !c.shut {
			b, shut := c.server.Take(c.at)
			c.out += string(b)
			c.shut = shut
		}
	}
	return number, err
}

func (w *words) happen(e cluster.Event) (int, api.Errno) {
	switch e.Kind {
	case 7:
		switch {
		case e.Node < 0 || e.Node >= len(w.servers):
			return 0, api.ErrArg
		case !w.c.View(e.Node).Up:
			return 0, api.ErrPower
		case len(w.l) == 64:
			return 0, api.ErrBig
		}
		s := w.servers[e.Node]
		w.l = append(w.l, &client{node: e.Node, server: s, at: s.Connect()})
		return len(w.l) - 1, api.OK
	case 8:
		if e.Pick < 0 || e.Pick >= len(w.l) {
			return 0, api.ErrArg
		}
		if c := w.l[e.Pick]; !c.shut {
			c.sent += e.Data
			c.server.Feed(c.at, []byte(e.Data), 0)
		}
		return 0, api.OK
	case cluster.Propose:
		return 0, api.ErrArg
	}
	_, err := w.c.Do(e)
	if e.Kind == cluster.Restart && err == api.OK {
		w.shut(e.Node)
		w.servers[e.Node], w.applied[e.Node] = node.New([]byte(w.key)), 0
		w.seen["restart"]++
	}
	return 0, err
}

// shut shuts the connections of a node.
func (w *words) shut(i int) {
	for _, c := range w.l {
		if c.node == i {
			c.shut = true
		}
	}
}

// round lets each node do what there is to do; false: there was nothing.
func (w *words) round() bool {
	some := false
	for i, s := range w.servers {
		v := w.c.View(i)
		if !v.Up {
			if s != nil {
				w.seen["down"]++
			}
			some = some || s != nil
			w.servers[i], w.applied[i] = nil, 0
			w.shut(i)
			continue
		}
		for w.applied[i] < v.Raft.Commit {
			some = true
			e := v.Raft.Log[w.applied[i]]
			w.applied[i]++
			s.Apply(w.applied[i], e.Term, e.Data)
			w.close(s, w.applied[i], e.Term)
		}
		for _, a := range s.Asks() {
			some = true
			w.propose(i, a)
		}
	}
	return some
}

// close answers the asks that waited for an entry.
func (w *words) close(s *node.Server, index, term int) {
	w.open = slices.DeleteFunc(w.open, func(a *ask) bool {
		if a.server != s || a.Index != index {
			return false
		}
		if a.Term == term {
			a.End = w.count
			w.answers = append(w.answers, a.Answer)
		} else {
			w.seen["another term"]++
		}
		return true
	})
}

func (w *words) propose(i int, a node.Ask) {
	s := w.servers[i]
	k := slices.IndexFunc(w.l, func(c *client) bool { return c.server == s && c.at == a.Conn })
	w.l[k].asks++
	number, e := w.c.Do(cluster.Event{Kind: cluster.Propose, Node: i, Data: a.Data})
	v := w.c.View(i).Raft
	w.seen[fmt.Sprint("proposed ", e)]++
	switch {
	case e == api.OK:
		s.Accept(a.Conn, number, v.Term)
		w.open = append(w.open, &ask{world.Answer{Conn: k, Ask: w.l[k].asks - 1, Index: number, Term: v.Term, Data: a.Data, Begin: w.count}, s})
	case e == api.ErrLeader && v.Leader >= 0:
		s.Reject(a.Conn, 307, v.Leader)
	case e == api.ErrLeader:
		w.seen["nobody leads"]++
		s.Reject(a.Conn, 503, 0)
	case e != api.ErrPower:
		s.Reject(a.Conn, 507, 0)
	}
}

// calm is Calm, in one call of the world.
func (w *words) calm(rounds int) {
	w.t.Helper()
	w.w.Calm(rounds)
	for r := range rounds {
		for i := range w.servers {
			w.step(cluster.Event{Kind: cluster.Tick, Node: i, Draw: 3*i + r})
			for many := 0; many < 2000 && w.c.Way() > 0; many++ {
				w.step(cluster.Event{Kind: cluster.Arrive})
			}
		}
	}
	w.hold(fmt.Sprint("Calm of ", rounds))
}

func sameState(a, b api.Raft) bool {
	same := slices.Equal(a.Log, b.Log) && slices.Equal(a.Votes, b.Votes) && slices.Equal(a.Next, b.Next) && slices.Equal(a.Match, b.Match)
	return same && a.Self == b.Self && a.N == b.N && a.Term == b.Term && a.Vote == b.Vote && a.Role == b.Role && a.Leader == b.Leader && a.Commit == b.Commit && a.Clock == b.Clock && a.Limit == b.Limit
}

// hold holds all that can be seen against the words.
func (w *words) hold(behind string) {
	w.t.Helper()
	if w.w.Nodes() != len(w.servers) {
		w.fail("%s: %d nodes", behind, w.w.Nodes())
	}
	for i, s := range w.servers {
		v, want := w.w.View(i), w.c.View(i)
		if v.Up != want.Up || !sameState(v.Raft, want.Raft) {
			w.fail("%s: node %d: %+v\nnot %+v", behind, i, v, want)
		}
		if (s != nil) != v.Up || w.w.Applied(i) != w.applied[i] {
			w.fail("%s: node %d: up %v, applied %d, not %v, %d", behind, i, v.Up, w.w.Applied(i), s != nil, w.applied[i])
		}
		w.commit(i, v.Raft)
	}
	for k, c := range w.l {
		if b, shut := w.w.Sent(k); string(b) != c.out || shut != c.shut {
			w.fail("%s: connection %d: %q, %v\nnot %q, %v", behind, k, b, shut, c.out, c.shut)
		}
	}
	if l := w.w.Answers(); !slices.Equal(l, w.answers) {
		w.fail("%s: Answers: %+v\nnot %+v", behind, l, w.answers)
	}
}

// commit holds a node's committed entries against those of all.
func (w *words) commit(i int, s api.Raft) {
	w.t.Helper()
	for at, e := range s.Log[:s.Commit] {
		if at == len(w.row) {
			w.row = append(w.row, e)
		}
		if w.row[at] != e {
			w.fail("node %d has committed %v as entry %d, not %v", i, e, at+1, w.row[at])
		}
	}
}

// spaces are the workspaces behind so many entries of the row, and the replies of these.
func (w *words) spaces() (l []api.Space, replies []api.Reply, cmds []api.Cmd) {
	l, replies = make([]api.Space, 1), make([]api.Reply, 1)
	var s api.Space
	for _, e := range w.row {
		var r api.Reply
		if c, err := route.Unpack(e.Data); err == api.OK {
			cmds = append(cmds, c)
			s, r, _ = space.Apply(s, c)
		}
		l, replies = append(l, s), append(replies, r)
	}
	return l, replies, cmds
}

// promises holds what has been seen against P26.1 and P26.2.
func (w *words) promises() {
	w.t.Helper()
	l, replies, cmds := w.spaces()
	w.order(l)
	for k := range w.l {
		x := &talk{words: w, k: k, l: l, replies: replies, cmds: cmds}
		b, shut := w.w.Sent(k)
		x.rest, x.shut = string(b), shut
		x.hold()
	}
}

// order holds the answers and the workspaces against one row of entries.
func (w *words) order(spaces []api.Space) {
	w.t.Helper()
	l := w.w.Answers()
	for i, a := range l {
		if a.Index < 1 || a.Index > len(w.row) || w.row[a.Index-1] != (api.Entry{Term: a.Term, Data: a.Data}) || a.Begin < 1 || a.End < a.Begin || a.End > w.count {
			w.fail("no entry: %+v", a)
		}
		for _, b := range l[:i] {
			if a.Index == b.Index || a.End < b.Begin && a.Index > b.Index || b.End < a.Begin && b.Index > a.Index || b.End > a.End {
				w.fail("%+v beside %+v", a, b)
			}
		}
	}
	for i := range w.servers {
		n := w.w.Applied(i)
		if got, want := fmt.Sprintf("%+v", w.w.Space(i)), fmt.Sprintf("%+v", spaces[n]); got != want {
			w.fail("node %d behind %d entries: %s\nnot %s", i, n, got, want)
		}
	}
}

// talk is what was said on a connection; rest is what hasn't been told yet of what went out.
type talk struct {
	*words
	k       int
	l       []api.Space
	replies []api.Reply
	cmds    []api.Cmd
	rest    string
	shut    bool
	ask     int
}

// hold holds what went out against what came in, request by request.
func (x *talk) hold() {
	x.t.Helper()
	var p http.Parser
	for _, item := range p.Feed([]byte(x.words.l[x.k].sent)) {
		last := item.Code != 0 || item.Req.Close
		a := route.Plan(item.Req, []byte(x.key), 0)
		want := route.Error(item.Code)
		switch {
		case item.Code != 0:
		case a.Kind == route.Refuse:
			want = route.Error(a.Code)
		case a.Kind == route.Events && http.Value(item.Req, "upgrade") == "websocket":
			x.events(a, http.Value(item.Req, "sec-websocket-key"))
			return
		case a.Kind == route.Events:
			want = route.Error(400)
		default:
			if x.asked(a, last) {
				continue
			}
			return
		}
		if x.rest == "" && x.shut { // the power went out
			return
		}
		x.comes(want, last)
		if last {
			break
		}
	}
	if x.rest != "" {
		x.fail("connection %d: too much: %q", x.k, x.rest)
	}
}

func (x *talk) comes(a http.Answer, last bool) {
	x.t.Helper()
	a.Close = last
	rest, ok := strings.CutPrefix(x.rest, string(http.Write(a)))
	if !ok {
		x.fail("connection %d: %q, not %q", x.k, x.rest, http.Write(a))
	}
	x.rest = rest
}

// asked holds the answer to what is asked of the log; false: nothing came.
func (x *talk) asked(a route.Action, last bool) bool {
	x.t.Helper()
	n := x.ask
	x.ask++
	for _, given := range x.w.Answers() {
		if given.Conn != x.k || given.Ask != n {
			continue
		}
		if a.Kind == route.Command {
			x.comes(route.Answer(x.replies[given.Index]), last)
		} else {
			x.comes(route.View(x.l[given.Index], a, []byte(x.key), 0), last)
		}
		x.seen["answered"]++
		return !last
	}
	if x.rest == "" {
		return false
	}
	var rejections []http.Answer
	for i := range x.servers {
		rejections = append(rejections, http.Answer{Code: 307, Heads: []http.Head{{Name: "x-leader", Value: strconv.Itoa(i)}}, Body: `{"error":307}`})
	}
	for _, r := range append(rejections, route.Error(503), route.Error(507)) {
		r.Close = last
		if strings.HasPrefix(x.rest, string(http.Write(r))) {
			x.comes(r, last)
			x.seen[fmt.Sprint("rejected ", r.Code)]++
			return !last
		}
	}
	x.fail("connection %d: ask %d: %q", x.k, n, x.rest)
	return false
}

// events holds what a subscriber was sent: a beginning of what they should be.
func (x *talk) events(a route.Action, key string) {
	x.t.Helper()
	if x.rest == "" && x.shut {
		return
	}
	x.comes(http.Answer{Code: 101, Heads: []http.Head{{Name: "upgrade", Value: "websocket"}, {Name: "connection", Value: "Upgrade"}, {Name: "sec-websocket-accept", Value: ws.Accept(key)}}}, false)
	should := session.Replay(x.cmds, a.User, a.N)
	told := 0
	for _, f := range ws.NewReader(false).Feed([]byte(x.rest)) {
		if f.Kind != ws.Text {
			continue
		}
		if told == len(should) {
			x.fail("connection %d: too much: %q", x.k, f.Text)
		}
		e := should[told]
		if want := fmt.Sprintf(`{"pos":%d,"chan":%d,"text":%q}`, e.Pos, e.Chan, e.Text); f.Text != want {
			x.fail("connection %d: %s, not %s", x.k, f.Text, want)
		}
		told++
		x.seen["told"]++
	}
}

// storm is what the outer world does.
type storm struct {
	*words
	r      *rand.Rand
	arm    int  // one in so many
	most   int  // entries
	lonely bool // most of what is said is said to the node that leads
	still  int  // for a while this node doesn't tick
}

func pick[T any](r *rand.Rand, l ...T) T {
	return l[r.Intn(len(l))]
}

func (x *storm) request() string {
	r := x.r
	n := strconv.Itoa(r.Intn(1 + r.Intn(3)))
	user := pick(r, "ann", "bob")
	heads := []string{auth(user)}
	if r.Intn(3) == 0 {
		heads = append(heads, "x-request: r"+strconv.Itoa(r.Intn(9)))
	}
	if r.Intn(30) == 0 {
		heads = append(heads, "connection: close")
	}
	switch r.Intn(14) {
	case 0, 1:
		return text("POST", "/users", `{"name":"`+pick(r, "ann", "bob", "u"+strconv.Itoa(r.Intn(99)))+`"}`, heads...)
	case 2:
		return text("POST", "/channels", `{"name":"c`+n+`"}`, heads...)
	case 3:
		return text("POST", "/channels/"+n+"/"+pick(r, "join", "join", "leave"), "", heads...)
	case 4, 5, 6:
		return text("POST", "/channels/"+n+"/posts", `{"text":"hi `+n+`"}`, heads...)
	case 7:
		return text("GET", "/channels/"+n+"/posts", "", heads...)
	case 8:
		return text("GET", "/search/hi", "", heads...)
	case 9:
		return text("POST", "/login", `{"name":"`+user+`"}`)
	case 10:
		return text("POST", "/posts/"+n+"/react", `{"name":"ok"}`, heads...)
	case 11:
		return text("GET", "/events/"+n, "", append(heads, "upgrade: "+pick(r, "websocket", "websocket", "x"), "sec-websocket-key: k"+n)...)
	case 12:
		return text("GET", "/nothing", "", heads...)
	}
	return pick(r, text("GET", "/channels", ""), text("GET", "/channels", "", heads...), text("GET", "/channels", "", heads...), "\r\n\r\n")
}

// leads answers a node that leads; -1: none does.
func (w *words) leads() int {
	for i := range w.servers {
		if w.c.View(i).Raft.Role == raft.Leader {
			return i
		}
	}
	return -1
}

// someone answers a connection, rather one that isn't shut; -1: there is none.
func (x *storm) someone() int {
	if len(x.l) == 0 {
		return -1
	}
	k := x.r.Intn(len(x.l))
	for range 20 {
		if !x.l[k].shut && (!x.lonely || x.l[k].node == x.leads()) {
			break
		}
		k = x.r.Intn(len(x.l))
	}
	return k
}

// say lets a client say something.
func (x *storm) say() {
	r := x.r
	k := x.someone()
	if k < 0 || len(x.row) >= x.most {
		return
	}
	s := ""
	for range 1 + r.Intn(3)*r.Intn(2) {
		s += x.request()
	}
	if strings.Contains(x.l[k].out, " 101 ") {
		b, _ := ws.Encode(ws.Frame{Fin: true, Op: pick(r, ws.Ping, ws.Ping, ws.Ping, ws.Pong, ws.Close), Masked: true})
		s = string(b)
	}
	for cut := r.Intn(2) * r.Intn(len(s)); s != ""; cut = len(s) {
		x.do(cluster.Event{Kind: world.Bytes, Pick: k, Data: s[:cut]})
		s = s[cut:]
	}
	if r.Intn(8) == 0 {
		x.lull(x.l[k].node)
	}
}

// lull loses all that is under way, and lets a node be still for a while: what it has agreed to may come to nothing.
func (x *storm) lull(i int) {
	x.still = i
	for x.c.Way() > 0 {
		x.do(cluster.Event{Kind: cluster.Lose})
	}
}

func (x *storm) step() {
	r := x.r
	n := len(x.servers)
	e := cluster.Event{Node: r.Intn(n), Pick: r.Int() - r.Int(), Draw: r.Intn(1000) - 500, Data: "x", Keep: r.Uint64() & r.Uint64(), Tear: r.Intn(9) - 1, Sectors: r.Intn(11) - 1}
	switch k := r.Intn(1000); {
	case k < 250:
		e.Kind = cluster.Tick
		if r.Intn(100) == 0 {
			x.still = -1
		}
		if e.Node == x.still {
			return
		}
	case k < 750:
		e.Kind = cluster.Arrive
		if r.Intn(3) > 0 {
			e.Pick = 0
		}
	case k < 770:
		e.Kind = cluster.Lose
	case k < 790:
		e.Kind = cluster.Double
	case k < 890:
		x.say()
		return
	case k < 920:
		if len(x.l) >= 60 {
			return
		}
		e.Kind = world.Connect
		if i := x.leads(); x.lonely && i >= 0 && r.Intn(3) > 0 {
			e.Node = i
		}
	case k < 930:
		e.Kind, e.Node, e.Pick = pick(r, -1, 0, 4, 5, 6, 7, 8, 9), pick(r, -1, n, 1<<63-1, -1<<63), pick(r, -1, len(x.l), 1<<63-1, -1<<63)
		if e.Kind == cluster.Propose {
			e.Node = r.Intn(n)
		}
	default:
		if r.Intn(x.arm) > 0 {
			return
		}
		e.Kind, e.Pick = cluster.Arm, r.Intn(1+r.Intn(60))-1
		if i := slices.Index(x.servers, nil); i >= 0 || r.Intn(4) == 0 {
			e.Kind, e.Node = cluster.Restart, max(i, e.Node)
		}
	}
	x.do(e)
}

// rage lets so many things happen, and holds what is promised.
func rage(t *testing.T, what string, n, blocks, steps int, r *rand.Rand) *storm {
	t.Helper()
	x := &storm{words: begin(t, what, n, blocks), r: r, arm: pick(r, 2, 5, 20), most: 110, lonely: r.Intn(3) > 0, still: -1}
	for range steps {
		x.step()
	}
	x.promises()
	return x
}

// note adds up how often what happened.
func note(all, some map[string]int) {
	for k, n := range some {
		all[k] += n
	}
}

func often(t *testing.T, seen map[string]int, least int, what ...string) {
	t.Helper()
	if testing.Verbose() {
		t.Log(seen)
	}
	for _, k := range what {
		if seen[k] < least {
			t.Errorf("%s: %d times", k, seen[k])
		}
	}
}

// TestP26_1Storms: whatever happens, the order and the answers are as promised, and all goes by the words.
func TestP26_1Storms(t *testing.T) {
	seen := map[string]int{}
	for seed := range 80 {
		r := rand.New(rand.NewSource(int64(seed)))
		x := rage(t, fmt.Sprint("seed ", seed), pick(r, 1, 1, 2, 3, 3, 3, 4, 5, 7), 400, 1500, r)
		note(seen, x.seen)
	}
	often(t, seen, 5, "another term", "answered in vain")
	often(t, seen, 50, "restart", "down", "answered", "told", "nobody leads", "rejected 307", "rejected 503", "proposed 0", "proposed 9", "proposed 11")
}

// TestP26_1Cramped: disks without room, and with just enough of it.
func TestP26_1Cramped(t *testing.T) {
	seen := map[string]int{}
	for seed := range 20 {
		r := rand.New(rand.NewSource(int64(seed)))
		x := rage(t, fmt.Sprint("seed ", seed), pick(r, 1, 1, 2, 3), pick(r, 70, 74, 80, 100), 800, r)
		note(seen, x.seen)
	}
	often(t, seen, 20, "restart", "down", "answered", "proposed 9")
}

// end holds what is promised of the end: all nodes up, none armed.
func (x *storm) end() {
	x.t.Helper()
	for i := range x.servers {
		x.do(cluster.Event{Kind: cluster.Restart, Node: i, Draw: x.r.Intn(10), Keep: x.r.Uint64()})
	}
	x.calm(200)
	i := x.leads()
	if i < 0 {
		x.fail("nobody leads")
	}
	k, e := x.do(cluster.Event{Kind: world.Connect, Node: i})
	if e != api.OK {
		x.fail("Connect: %d", e)
	}
	for n, s := range []string{text("POST", "/users", `{"name":"zoe"}`), text("POST", "/login", `{"name":"zoe"}`), text("GET", "/channels", "", auth("zoe"))} {
		x.do(cluster.Event{Kind: world.Bytes, Pick: k, Data: s})
		x.calm(8)
		b, shut := x.w.Sent(k)
		if got := strings.Count(string(b), "HTTP/1.1 200 OK"); got != n+1 || shut {
			x.fail("at the end: %d answers: %q, %v", got, b, shut)
		}
	}
	x.promises()
}

// TestP26_3End: behind a storm and 200 rounds of Calm a request is answered within 8 rounds more.
func TestP26_3End(t *testing.T) {
	for seed := range 40 {
		r := rand.New(rand.NewSource(int64(1000 + seed)))
		rage(t, fmt.Sprint("seed ", 1000+seed), 1+seed%7, 74+2*160, 700, r).end()
	}
}

// TestP26_3Quiet: at once, of nodes that know no storm.
func TestP26_3Quiet(t *testing.T) {
	for n := 1; n <= 7; n++ {
		r := rand.New(rand.NewSource(int64(n)))
		x := &storm{words: begin(t, fmt.Sprint(n, " nodes"), n, 100), r: r}
		x.end()
	}
}

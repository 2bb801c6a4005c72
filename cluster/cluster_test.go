package cluster_test

import (
	"fmt"
	"math"
	"math/rand"
	"slices"
	"strings"
	"testing"
	"unsafe"

	"parley/api"
	"parley/cluster"
	"parley/raft"
)

func check(t *testing.T, what string, got, want any) {
	t.Helper()
	if g, w := fmt.Sprintf("%+v", got), fmt.Sprintf("%+v", want); g != w {
		t.Errorf("%s: %.1000s, not %.1000s", what, g, w)
	}
}

// does holds what an event answers.
func does(t *testing.T, c *cluster.Cluster, e cluster.Event, number int, err api.Errno) {
	t.Helper()
	n, got := c.Do(e)
	check(t, fmt.Sprintf("%.300s", fmt.Sprintf("%+v", e)), []any{n, got}, []any{number, err})
}

func made(t *testing.T, n, blocks int) *cluster.Cluster {
	t.Helper()
	c, e := cluster.New(n, blocks)
	if e != api.OK {
		t.Fatalf("New of %d, %d: %d", n, blocks, e)
	}
	return c
}

// leader is the number of the node that leads; -1: not just one does.
func leader(c *cluster.Cluster) int {
	found := -1
	for i := range c.Nodes() {
		if c.View(i).Raft.Role == raft.Leader {
			if found >= 0 {
				return -1
			}
			found = i
		}
	}
	return found
}

func TestP24_1Examples(t *testing.T) {
	c := made(t, 3, 100)
	c.Calm(40)
	at := leader(c)
	for i := range 3 {
		v := c.View(i)
		check(t, fmt.Sprint("node ", i), []any{v.Up, len(v.Raft.Log), v.Raft.Commit, v.Raft.Leader}, []any{true, 1, 1, at})
	}
	does(t, c, cluster.Event{Kind: cluster.Propose, Node: at, Data: "x"}, 2, api.OK)
	c.Calm(6)
	for i := range 3 {
		v := c.View(i)
		check(t, fmt.Sprint("node ", i), []any{len(v.Raft.Log), v.Raft.Log[1].Data, v.Raft.Commit}, []any{2, "x", 2})
	}
	c = made(t, 3, 100)
	does(t, c, cluster.Event{Kind: cluster.Arm}, 0, api.OK)
	for range 10 {
		check(t, "it is up", c.View(0).Up, true)
		does(t, c, cluster.Event{}, 0, api.OK)
	}
	check(t, "it is down", fmt.Sprint(c.View(0), c.Way()), fmt.Sprint(cluster.View{}, 0))
	does(t, c, cluster.Event{}, 0, api.ErrPower)
	does(t, c, cluster.Event{Kind: cluster.Restart}, 0, api.OK)
	check(t, "it is back", c.View(0).Up, true)
}

func TestP24_1Constants(t *testing.T) {
	check(t, "kinds", []int{cluster.Tick, cluster.Arrive, cluster.Lose, cluster.Double, cluster.Arm, cluster.Restart, cluster.Propose}, []int{0, 1, 2, 3, 4, 5, 6})
	check(t, "MaxWay", cluster.MaxWay, 200)
}

func TestP24_1New(t *testing.T) {
	for _, n := range []int{1, 2, 3, 4, 5, 6, 7} {
		for _, blocks := range []int{70, 71, 100, 2047, 2048} {
			begin(t, fmt.Sprint("New of ", n, ", ", blocks), n, blocks)
		}
	}
	for _, x := range [][2]int{{0, 100}, {-1, 100}, {8, 100}, {9, 100}, {math.MaxInt, 100}, {math.MinInt, 100}, {3, 69}, {3, 0}, {3, -1}, {3, -100}, {3, 2049}, {3, math.MaxInt}, {3, math.MinInt}, {0, 0}, {8, 2049}, {0, 69}, {1, 69}, {7, 2049}} {
		c, e := cluster.New(x[0], x[1])
		check(t, fmt.Sprint("New of ", x), []any{c == nil, e}, []any{true, api.ErrArg})
	}
}

// TestP24_1Wrong: events that aren't any, and nodes that aren't there, change nothing.
func TestP24_1Wrong(t *testing.T) {
	w := begin(t, "what is wrong", 3, 100)
	w.elect(0, 1)
	for range 10 {
		w.propose(0, "x")
	}
	for _, kind := range []int{-1, 7, 8, 9, 100, math.MaxInt, math.MinInt} {
		for _, node := range []int{0, 1, -1, 3} {
			_, e := w.do(cluster.Event{Kind: kind, Node: node, Data: "x"})
			check(t, fmt.Sprint("kind ", kind), e, api.ErrArg)
		}
	}
	for _, kind := range []int{cluster.Tick, cluster.Arm, cluster.Restart, cluster.Propose} {
		for _, node := range []int{-1, 3, 4, 7, -3, math.MaxInt, math.MinInt} {
			_, e := w.do(cluster.Event{Kind: kind, Node: node, Data: "x"})
			check(t, fmt.Sprint("kind ", kind, " of node ", node), e, api.ErrArg)
		}
	}
	for _, node := range []int{-1, 3, 99, math.MaxInt} {
		for _, kind := range []int{cluster.Double, cluster.Lose, cluster.Arrive} {
			many := w.c.Way()
			_, e := w.do(cluster.Event{Kind: kind, Node: node})
			check(t, "of whatever node", []any{e, many > 0}, []any{api.OK, true})
		}
	}
	for _, i := range []int{-1, 3, 7, math.MaxInt, math.MinInt} {
		check(t, fmt.Sprint("View of ", i), fmt.Sprint(w.c.View(i)), fmt.Sprint(cluster.View{}))
	}
}

// TestP24_1Nothing: frames where nothing is under way.
func TestP24_1Nothing(t *testing.T) {
	w := begin(t, "nothing under way", 3, 100)
	for _, kind := range []int{cluster.Arrive, cluster.Lose, cluster.Double} {
		for _, pick := range []int{0, 1, -1, 7, math.MaxInt, math.MinInt} {
			n, e := w.do(cluster.Event{Kind: kind, Pick: pick})
			check(t, fmt.Sprint("kind ", kind), []any{n, e, w.c.Way()}, []any{0, api.OK, 0})
		}
	}
}

// TestP24_1Picks: a frame's number is taken modulo how many there are, from 0 on.
func TestP24_1Picks(t *testing.T) {
	for _, kind := range []int{cluster.Arrive, cluster.Lose, cluster.Double} {
		for _, pick := range []int{0, 1, 2, 3, 4, 5, 6, 7, 100, -1, -2, -3, -4, -5, -6, -7, -100, math.MaxInt, math.MinInt, math.MinInt + 1} {
			w := begin(t, fmt.Sprint("kind ", kind, " of ", pick), 6, 100)
			for range 10 {
				w.tick(0)
			}
			check(t, "they are asked", w.c.Way(), 5)
			for range 7 {
				w.do(cluster.Event{Kind: kind, Pick: pick})
			}
			for w.c.Way() > 0 {
				w.do(cluster.Event{Kind: cluster.Arrive})
			}
		}
	}
}

// TestP24_1Double: a frame that is doubled may arrive as often as it likes; one that is lost doesn't.
func TestP24_1Double(t *testing.T) {
	w := begin(t, "doubled", 3, 100)
	for range 10 {
		w.tick(0)
	}
	w.do(cluster.Event{Kind: cluster.Double})
	w.do(cluster.Event{Kind: cluster.Double})
	check(t, "two answers more", w.c.Way(), 4)
	w.do(cluster.Event{Kind: cluster.Lose})
	check(t, "one less", w.c.Way(), 3)
	check(t, "nobody leads", leader(w.c), -1)
	w.do(cluster.Event{Kind: cluster.Arrive, Pick: 2})
	check(t, "node 0 leads", leader(w.c), 0)
	check(t, "what it offers", w.c.Way(), 4)
}

// TestP24_1Way: of more than 200 frames the oldest ones go.
func TestP24_1Way(t *testing.T) {
	w := begin(t, "many frames", 7, 300)
	w.elect(0, 1, 2, 3)
	for i := range 50 {
		w.propose(0, fmt.Sprint("x", i))
		check(t, "how many", w.c.Way(), min(200, 6*(i+1)))
	}
	for range 90 {
		w.tick(0)
	}
	check(t, "how many", w.c.Way(), 200)
	w.do(cluster.Event{Kind: cluster.Double, Pick: 199})
	w.do(cluster.Event{Kind: cluster.Double, Pick: 0})
	check(t, "doubled ones are pushed out, too", w.c.Way(), 200)
	for w.c.Way() > 0 {
		w.do(cluster.Event{Kind: cluster.Arrive, Pick: 3 * w.c.Way() / 4})
	}
	w.calm(60)
	w.agree()
}

// TestP24_1Propose: its errors, its numbers.
func TestP24_1Propose(t *testing.T) {
	w := begin(t, "proposals", 3, 200)
	proposed := func(i int, data string, number int, err api.Errno) {
		t.Helper()
		n, e := w.do(cluster.Event{Kind: cluster.Propose, Node: i, Data: data})
		check(t, fmt.Sprintf("%.100q at node %d", data, i), []any{n, e}, []any{number, err})
	}
	for i := range 3 {
		proposed(i, "x", 0, api.ErrLeader)
		proposed(i, "", 0, api.ErrLeader)
	}
	w.elect(1, 2)
	proposed(1, "", 0, api.ErrArg)
	proposed(1, strings.Repeat("x", 81), 0, api.ErrBig)
	proposed(1, strings.Repeat("x", 80), 2, api.OK)
	proposed(1, "\x00\xff|é", 3, api.OK)
	proposed(1, "look", 4, api.OK)
	proposed(0, "x", 0, api.ErrLeader)
	proposed(0, strings.Repeat("x", 81), 0, api.ErrLeader)
	w.restart(1)
	proposed(1, "x", 0, api.ErrLeader)
	w.calm(60)
	w.agree()
	proposed(leader(w.c), "y", 6, api.OK)
}

// TestP24_1Full: a log takes 400 entries.
func TestP24_1Full(t *testing.T) {
	w := begin(t, "a full log", 1, 874)
	for range 10 {
		w.tick(0)
	}
	for i := range 399 {
		if n, e := w.do(cluster.Event{Kind: cluster.Propose, Data: strings.Repeat("x", 80)}); n != i+2 || e != api.OK {
			t.Fatalf("proposal %d: %d, error %d", i, n, e)
		}
	}
	for _, x := range []struct {
		data string
		err  api.Errno
	}{{"x", api.ErrBig}, {"", api.ErrArg}, {strings.Repeat("x", 81), api.ErrBig}} {
		n, e := w.do(cluster.Event{Kind: cluster.Propose, Data: x.data})
		check(t, fmt.Sprintf("%.20q more", x.data), []any{n, e}, []any{0, x.err})
	}
	v := w.c.View(0)
	check(t, "what there is", []int{len(v.Raft.Log), v.Raft.Commit}, []int{400, 400})
	w.restart(0)
	for range 20 {
		w.tick(0)
	}
	check(t, "it leads again, with the entries that it had", []any{leader(w.c), len(w.c.View(0).Raft.Log)}, []any{0, 400})
}

// TestP24_1Room: as many entries as the document says have room.
func TestP24_1Room(t *testing.T) {
	for _, n := range []int{1, 3} {
		for _, many := range []int{1, 2, 5, 10, 30, 100} {
			w := begin(t, fmt.Sprint(many, " entries at ", n, " nodes"), n, 74+2*many)
			w.calm(40)
			for i := range many - 1 {
				w.propose(leader(w.c), strings.Repeat(fmt.Sprint(i%10), 80))
				w.calm(3)
			}
			w.calm(6)
			w.agree()
			check(t, w.what, len(w.c.View(n-1).Raft.Log), many)
			for i := range n {
				w.restart(i)
			}
			check(t, w.what+", restarted", len(w.c.View(n-1).Raft.Log), many)
		}
	}
}

// TestP24_1NoRoom: a node without room for an entry is down, and can be had back with what there was room for.
func TestP24_1NoRoom(t *testing.T) {
	c := made(t, 1, 70)
	c.Calm(20)
	full := 0
	for i := 2; full == 0; i++ {
		n, e := c.Do(cluster.Event{Kind: cluster.Propose, Data: strings.Repeat("x", 80)})
		if e != api.OK {
			check(t, "no room", []any{n, e, i < 224, c.Way()}, []any{0, api.ErrPower, true, 0})
			full = i
		}
	}
	check(t, "it is down", fmt.Sprint(c.View(0)), fmt.Sprint(cluster.View{}))
	does(t, c, cluster.Event{Kind: cluster.Propose, Data: "x"}, 0, api.ErrPower)
	does(t, c, cluster.Event{Kind: cluster.Tick}, 0, api.ErrPower)
	does(t, c, cluster.Event{Kind: cluster.Arm}, 0, api.ErrPower)
	does(t, c, cluster.Event{Kind: cluster.Restart, Draw: 5}, 0, api.OK)
	v := c.View(0)
	if got := len(v.Raft.Log); got < full-1 || got > full {
		t.Errorf("%d entries are there, of %d", got, full-1)
	}
	check(t, "the others", []any{v.Up, v.Raft.Term, v.Raft.Vote, v.Raft.Role, v.Raft.Commit, v.Raft.Limit}, []any{true, 1, 0, raft.Follower, 0, 15})
}

// TestP24_1Arm: a disk is armed, and is so no more.
func TestP24_1Arm(t *testing.T) {
	arm := func(w *words, i, pick int, err api.Errno) {
		t.Helper()
		n, e := w.do(cluster.Event{Kind: cluster.Arm, Node: i, Pick: pick})
		check(t, fmt.Sprint("armed with ", pick), []any{n, e}, []any{0, err})
	}
	for _, pick := range []int{-1, -2, -100, math.MinInt} {
		w := begin(t, fmt.Sprint("armed with ", pick), 1, 100)
		arm(w, 0, 0, api.OK)
		arm(w, 0, pick, api.OK)
		for range 10 {
			w.tick(0)
		}
		w.propose(0, "x")
		check(t, w.what, []any{w.c.View(0).Up, len(w.c.View(0).Raft.Log)}, []any{true, 2})
	}
	for _, pick := range []int{10000, math.MaxInt} {
		w := begin(t, fmt.Sprint("armed with ", pick), 3, 100)
		for i := range 3 {
			arm(w, i, pick, api.OK)
		}
		w.elect(0, 1, 2)
		w.propose(0, "x")
		w.share(0, 1, 2)
		check(t, w.what, []any{w.fell, w.c.View(1).Raft.Log}, []any{0, []api.Entry{{Term: 1}, {Term: 1, Data: "x"}}})
	}
	for pick := range 4 { // a few calls are never enough for a term and an entry
		w := begin(t, fmt.Sprint("armed with ", pick), 1, 100)
		arm(w, 0, pick, api.OK)
		for range 10 {
			w.tick(0)
		}
		check(t, w.what, []any{w.fell, w.c.View(0).Up}, []any{1, false})
		arm(w, 0, 5, api.ErrPower)
		arm(w, 0, -1, api.ErrPower)
		w.restart(0)
		for range 10 { // a restart brings the power back for good
			w.tick(0)
		}
		w.propose(0, "x")
		check(t, w.what+", restarted", []any{w.fell, w.c.View(0).Up, w.c.View(0).Raft.Commit}, []any{1, true, len(w.c.View(0).Raft.Log)})
	}
	w := begin(t, "armed, and restarted while it is up", 1, 100)
	arm(w, 0, 0, api.OK)
	w.restart(0)
	for range 10 {
		w.tick(0)
	}
	check(t, w.what, []any{w.fell, leader(w.c)}, []any{0, 0})
	w = begin(t, "one is armed, the others aren't", 3, 100)
	arm(w, 1, 0, api.OK)
	w.elect(0, 2)
	check(t, w.what, []any{w.fell, leader(w.c)}, []any{0, 0})
}

// TestP24_1Down: a node that is down takes no events but a restart; frames to it arrive, and nothing comes of them.
func TestP24_1Down(t *testing.T) {
	w := begin(t, "down", 3, 100)
	w.elect(0, 1, 2)
	w.do(cluster.Event{Kind: cluster.Arm, Node: 0})
	n, e := w.do(cluster.Event{Kind: cluster.Propose, Data: "x"})
	check(t, "the power", []any{n, e, w.c.Way(), w.c.View(0).Up}, []any{0, api.ErrPower, 0, false})
	for _, kind := range []int{cluster.Tick, cluster.Arm, cluster.Propose} {
		for _, data := range []string{"x", "", strings.Repeat("x", 81)} {
			n, e := w.do(cluster.Event{Kind: kind, Pick: 7, Draw: 3, Data: data})
			check(t, fmt.Sprint("kind ", kind), []any{n, e}, []any{0, api.ErrPower})
		}
	}
	for range 30 {
		w.tick(1)
	}
	many := w.c.Way()
	for k := range w.way {
		if w.way[k].To == 0 {
			w.do(cluster.Event{Kind: cluster.Double, Pick: k})
			check(t, "doubled to who is down", w.c.Way(), many)
		}
	}
	for k := len(w.way) - 1; k >= 0; k-- {
		if w.way[k].To == 0 {
			w.do(cluster.Event{Kind: cluster.Arrive, Pick: k})
			many--
			check(t, "arrived at who is down", w.c.Way(), many)
		}
	}
	w.calm(30)
	check(t, "the others go on", leader(w.c), 1)
	w.restart(0)
	w.calm(30)
	w.agree()
}

// TestP24_1Restart: what a node keeps, and what it begins with anew; no matter what a crash lets land, if nothing waits.
func TestP24_1Restart(t *testing.T) {
	w := begin(t, "restarts", 3, 200)
	w.elect(0, 1, 2)
	for i := range 12 {
		w.propose(0, fmt.Sprint("x", i))
	}
	w.share(0, 1)
	was := w.c.View(0).Raft
	for _, e := range []cluster.Event{{Draw: 7}, {Draw: -3, Keep: math.MaxUint64}, {Draw: 10, Tear: -1, Sectors: -1}, {Draw: 19, Keep: 5, Tear: 1, Sectors: 3}, {Draw: math.MaxInt, Tear: math.MaxInt, Sectors: math.MaxInt}, {Draw: math.MinInt, Tear: math.MinInt, Sectors: math.MinInt}} {
		for i := range 3 {
			e.Kind, e.Node = cluster.Restart, i
			w.do(e)
		}
		s := w.c.View(0).Raft
		check(t, "what it keeps", []any{s.Self, s.N, s.Term, s.Vote, s.Log}, []any{0, 3, was.Term, was.Vote, was.Log})
		check(t, "what it begins with", []any{s.Role, s.Leader, s.Commit, s.Clock, s.Limit}, []any{raft.Follower, -1, 0, 0, 10 + (e.Draw%10+10)%10})
	}
	w.calm(60)
	w.agree()
}

// TestP24_1Any: any events, no disk armed, against the words.
func TestP24_1Any(t *testing.T) {
	leaders, entries := 0, 0
	for seed := range int64(140) {
		r := rand.New(rand.NewSource(seed))
		w := begin(t, fmt.Sprint("seed ", seed), 1+int(seed)%7, 700)
		w.seen = newWatch()
		for range 4 {
			c := anyChances(r, false)
			for range 500 {
				w.do(c.event(r, w, 250))
			}
		}
		leaders, entries = leaders+len(w.seen.led), entries+len(w.seen.committed)
	}
	if leaders < 400 || entries < 1500 {
		t.Errorf("only %d leaders, %d entries committed", leaders, entries)
	}
}

// TestP24_1Calm: against the words, round by round, from the beginning and from any state.
func TestP24_1Calm(t *testing.T) {
	for n := 1; n <= 7; n++ {
		w := begin(t, fmt.Sprint(n, " nodes"), n, 400)
		for _, rounds := range []int{0, -1, math.MinInt, 1, 1, 1, 2, 5, 10, 1, 20} {
			w.calm(rounds)
		}
		w.agree()
		check(t, w.what, []any{len(w.c.View(0).Raft.Log), w.c.Way()}, []any{1, 0})
	}
	for seed := range int64(35) {
		r := rand.New(rand.NewSource(seed))
		w := begin(t, fmt.Sprint("seed ", seed), 1+int(seed)%7, 400)
		for range 5 {
			c := anyChances(r, false)
			for range 100 {
				w.do(c.event(r, w, 100))
			}
			w.calm(r.Intn(20))
		}
	}
}

// TestP24_1CalmDown: Calm goes on though a node is down.
func TestP24_1CalmDown(t *testing.T) {
	w := begin(t, "one is down", 3, 100)
	w.fall(0)
	w.calm(60)
	check(t, "who is up", []bool{w.c.View(0).Up, w.c.View(1).Up, w.c.View(2).Up}, []bool{false, true, true})
	check(t, "who leads", leader(w.c) > 0, true)
}

// TestP24_1Rush: behind a tick of Calm at most 2000 frames arrive. Three nodes have 400 entries that the leader, which ticks last, hasn't: it goes back one by one with each.
func TestP24_1Rush(t *testing.T) {
	for down := range 3 { // so that the last frame of all is another one
		w := begin(t, fmt.Sprint("a rush, ", down, " nodes down"), 7, 900)
		w.elect(0, 1, 2, 3)
		w.alone(0, 399)
		for range 52 {
			w.share(0, 1, 2)
		}
		check(t, "the logs", []int{len(w.s[0].Log), len(w.s[1].Log), len(w.s[2].Log), len(w.s[6].Log)}, []int{400, 400, 400, 0})
		w.elect(6, 3, 4, 5)
		w.alone(6, 399)
		w.restart(6)
		w.elect(6, 3, 4, 5)
		for i := 3; i < 3+down; i++ {
			w.fall(i)
		}
		most := 0
		for range 5 {
			w.calm(1)
			most = max(most, w.c.Way())
		}
		check(t, "some are left", most > 0, true)
		w.calm(10)
		check(t, "none is left", w.c.Way(), 0)
	}
}

// bytesOf answers a text, and the bytes in which it stands, to be written over.
func bytesOf(s string) (string, []byte) {
	b := []byte(s)
	return unsafe.String(&b[0], len(b)), b
}

// TestP24_1Memory: what is handed in isn't kept; what is answered is in memory of its own.
func TestP24_1Memory(t *testing.T) {
	w := begin(t, "memory", 3, 100)
	w.elect(0, 1, 2)
	data, b := bytesOf("in bytes")
	does(t, w.c, cluster.Event{Kind: cluster.Propose, Data: data}, 2, api.OK)
	w.step(cluster.Event{Kind: cluster.Propose, Data: "in bytes"})
	for i := range b {
		b[i] = 'z'
	}
	w.hold("when the data is written over")
	w.share(0, 1, 2)
	w.share(0, 1, 2)
	check(t, "what a follower has", w.c.View(1).Raft.Log[1].Data, "in bytes")
	for i := range 3 {
		v, other := w.c.View(i), w.c.View(i)
		for _, l := range [][]int{v.Raft.Next, v.Raft.Match} {
			for j := range l[:cap(l)] {
				l[:cap(l)][j] = -7
			}
		}
		for j := range v.Raft.Votes[:cap(v.Raft.Votes)] {
			v.Raft.Votes[:cap(v.Raft.Votes)][j] = !v.Raft.Votes[:cap(v.Raft.Votes)][j]
		}
		for j := range v.Raft.Log[:cap(v.Raft.Log)] {
			v.Raft.Log[:cap(v.Raft.Log)][j] = api.Entry{Term: 99, Data: "z"}
		}
		check(t, "another view", sameState(other.Raft, w.s[i]), true)
		w.hold("when a view is written over")
	}
	w.propose(0, "more")
	w.share(0, 1, 2)
	w.share(0, 1, 2)
	w.agree()
}

// TestP24_1Again: the same events are answered in the same way.
func TestP24_1Again(t *testing.T) {
	for seed := range int64(5) {
		r := rand.New(rand.NewSource(seed))
		w := begin(t, fmt.Sprint("seed ", seed), 3+2*int(seed%3), 300)
		c := made(t, w.c.Nodes(), 300)
		x := anyChances(r, true)
		for range 600 {
			e := x.event(r, w, 60)
			n, err := w.do(e)
			does(t, c, e, n, err)
		}
		for i := range c.Nodes() {
			check(t, "a node", fmt.Sprint(c.View(i), c.Way()), fmt.Sprint(w.c.View(i), w.c.Way()))
		}
	}
}

// TestP24_2Storms: whatever happens, all is as promised; what a node has behind a power failure is what it had or should have had, or a beginning of it.
func TestP24_2Storms(t *testing.T) {
	leaders, entries, fell, partly := 0, 0, 0, 0
	for seed := range int64(280) {
		r := rand.New(rand.NewSource(seed))
		w := begin(t, fmt.Sprint("seed ", seed), 1+int(seed)%7, 500)
		w.seen = newWatch()
		for range 4 {
			c := anyChances(r, true)
			for range 500 {
				w.do(c.event(r, w, 100))
			}
		}
		leaders, entries, fell, partly = leaders+len(w.seen.led), entries+len(w.seen.committed), fell+w.fell, partly+w.partly
		w.recover()
		if longest(w.c) <= 160 {
			w.c.Calm(200)
			w.agree()
		}
	}
	if leaders < 600 || entries < 1000 || fell < 1000 || partly < 50 {
		t.Errorf("only %d leaders, %d entries committed, %d power failures, %d of them within a change", leaders, entries, fell, partly)
	}
}

// longest is the length of the longest log.
func longest(c *cluster.Cluster) int {
	most := 0
	for i := range c.Nodes() {
		most = max(most, len(c.View(i).Raft.Log))
	}
	return most
}

// TestP24_2Vote: a node that has given its vote, or asked for others', doesn't vote again in that term when it is back.
func TestP24_2Vote(t *testing.T) {
	for _, crashed := range []int{0, 1, 2} {
		w := begin(t, fmt.Sprint("votes, node ", crashed, " restarted"), 3, 100)
		w.seen = newWatch()
		for i := range 2 {
			for w.s[i].Term == 0 {
				w.tick(i)
			}
		}
		w.arrive(func(m api.Msg) bool { return m.From == 0 && m.To == 2 })
		check(t, "node 2 votes", w.c.View(2).Raft.Vote, 0)
		w.restart(crashed)
		for w.c.Way() > 0 {
			w.do(cluster.Event{Kind: cluster.Arrive, Pick: -1})
		}
		want := []int{0, 1, 0}
		for i := range 3 {
			check(t, fmt.Sprint(w.what, ": the vote of node ", i), w.c.View(i).Raft.Vote, want[i])
		}
	}
}

// TestP24_2Sent: what a node tells others is on its disk: nothing goes out of a change in which the power does.
func TestP24_2Sent(t *testing.T) {
	for _, x := range cuts {
		w := x.begin(t)
		x.do(w)
		sent := w.c.Way()
		w = x.begin(t)
		before := w.c.Way()
		w.do(cluster.Event{Kind: cluster.Arm, Node: x.node})
		if x.frame != nil {
			before--
		}
		x.do(w)
		check(t, x.what, []any{w.c.View(x.node).Up, w.c.Way(), sent > before}, []any{false, before, true})
	}
}

// cut is a change in which the power goes out: node takes a new state by an event, or by a frame that arrives.
type cut struct {
	what  string
	begin func(t *testing.T) *words
	node  int
	event cluster.Event
	frame func(m api.Msg) bool
	parts bool // it may be made in part
}

// until answers a cluster in which a node has ticked so often.
func until(n, i, ticks int) func(t *testing.T) *words {
	return func(t *testing.T) *words {
		w := begin(t, "ticks", n, 200)
		for range ticks {
			w.tick(i)
		}
		return w
	}
}

// led has node 0 lead, with some entries that others have, and some that they haven't.
func led(t *testing.T) *words {
	w := begin(t, "node 0 leads", 3, 200)
	w.elect(0, 1, 2)
	w.propose(0, "a")
	w.share(0, 1, 2)
	w.share(0, 1)
	w.alone(0, 7)
	for range raft.Beat {
		w.tick(0)
	}
	return w
}

// torn has node 0 with ten entries of term 1 that nobody has, and node 1 leading in term 2, whose frame with eight others is under way to it.
func torn(t *testing.T) *words {
	w := begin(t, "node 0 is to have others", 3, 200)
	w.elect(0, 2)
	w.alone(0, 9)
	w.elect(1, 2)
	w.alone(1, 7)
	for range raft.Beat {
		w.tick(1)
	}
	return w
}

func offers(from, to int) func(m api.Msg) bool {
	return func(m api.Msg) bool { return m.Kind == raft.AskAppend && m.From == from && m.To == to }
}

var cuts = []cut{
	{what: "asks for votes", begin: until(3, 0, 9), event: cluster.Event{Kind: cluster.Tick}},
	{what: "gives its vote", begin: until(3, 0, 10), node: 2, frame: func(m api.Msg) bool { return m.To == 2 }},
	{what: "leads", begin: func(t *testing.T) *words {
		w := until(3, 0, 10)(t)
		w.arrive(func(m api.Msg) bool { return m.To == 2 })
		return w
	}, frame: func(m api.Msg) bool { return m.Kind == raft.GiveVote }},
	{what: "takes a proposal", begin: led, event: cluster.Event{Kind: cluster.Propose, Data: "b"}},
	{what: "takes eight entries", begin: led, node: 2, frame: offers(0, 2), parts: true},
	{what: "takes eight entries for ten others, in another term", begin: torn, frame: offers(1, 0), parts: true},
}

// crashes are some that a disk may have.
func crashes(r *rand.Rand) []cluster.Event {
	return []cluster.Event{{Tear: -1}, {Keep: math.MaxUint64}, {Keep: 1, Tear: 1, Sectors: 4}, {Keep: r.Uint64(), Tear: r.Intn(8), Sectors: r.Intn(9)}, {Keep: r.Uint64() & r.Uint64(), Tear: r.Intn(4), Sectors: r.Intn(9)}}
}

// do lets the change begin.
func (x cut) do(w *words) {
	w.t.Helper()
	if x.frame != nil {
		w.arrive(x.frame)
	} else {
		w.do(x.event)
	}
}

// at lets the power go out in the change, at so many calls of the disk, and the node come back behind a crash.
func (x cut) at(t *testing.T, calls int, crash cluster.Event) *words {
	t.Helper()
	w := x.begin(t)
	w.what, w.seen = fmt.Sprint(x.what, ", armed with ", calls), newWatch()
	w.do(cluster.Event{Kind: cluster.Arm, Node: x.node, Pick: calls})
	x.do(w)
	crash.Kind, crash.Node, crash.Draw = cluster.Restart, x.node, calls
	w.do(crash)
	return w
}

// has is what the node keeps behind a power failure in the change.
func (x cut) has(t *testing.T, calls int, crash cluster.Event) string {
	t.Helper()
	return fmt.Sprint(keptOf(x.at(t, calls, crash).s[x.node]))
}

// TestP24_2Crash: a crash lets just those of the writes that wait land that the event says.
func TestP24_2Crash(t *testing.T) {
	for _, x := range cuts {
		differ := 0
		for calls := 0; x.at(t, calls, cluster.Event{}).fell > 0; calls++ {
			none := x.has(t, calls, cluster.Event{Tear: -1})
			first := x.has(t, calls, cluster.Event{Keep: 1, Tear: -1})
			if none != first {
				differ++
			}
			for _, e := range []cluster.Event{{}, {Sectors: -5}, {Tear: -5, Sectors: 8}, {Keep: 1 << 63, Tear: 64, Sectors: 8}} {
				check(t, fmt.Sprintf("%s, armed with %d, nothing lands: %+v", x.what, calls, e), x.has(t, calls, e), none)
			}
			for _, e := range []cluster.Event{{Keep: 1}, {Keep: 1 | 1<<63, Sectors: 8}, {Sectors: 8}, {Sectors: 99}} {
				check(t, fmt.Sprintf("%s, armed with %d, the first one lands: %+v", x.what, calls, e), x.has(t, calls, e), first)
			}
		}
		check(t, x.what+": it makes a difference", differ > 0, true)
	}
}

// TestP24_2Cuts: changes in which the power goes out at each call of the disk, with crashes of all kinds behind it.
func TestP24_2Cuts(t *testing.T) {
	r := rand.New(rand.NewSource(242))
	for _, x := range cuts {
		calls, partly := 0, 0
		for up := false; !up && calls < 1000; calls++ {
			for _, crash := range crashes(r) {
				w := x.at(t, calls, crash)
				up = w.fell == 0
				partly += w.partly
				if calls%9 == 0 {
					w.calm(60)
					w.agree()
				}
			}
		}
		if calls < 2 || calls == 1000 || x.parts && partly == 0 {
			t.Errorf("%s: %d calls, %d times in part", x.what, calls, partly)
		}
	}
}

// TestP24_3Calm: of any states, with frames under way, and disks that were armed, 200 rounds make one leader, equal logs, all committed.
func TestP24_3Calm(t *testing.T) {
	calm := 0
	for seed := range int64(70) {
		r := rand.New(rand.NewSource(1000 + seed))
		w := begin(t, fmt.Sprint("seed ", seed), 1+int(seed)%7, 394)
		w.seen = newWatch()
		for range 3 {
			c := anyChances(r, seed%2 == 0)
			for range 200 + r.Intn(300) {
				w.do(c.event(r, w, 120))
			}
		}
		w.recover()
		if longest(w.c) < 160 {
			calm++
			w.calm(200)
			w.agree()
		}
	}
	if calm < 50 {
		t.Errorf("only %d had at most 160 entries", calm)
	}
}

// TestP24_3Behind: nodes that have nothing, or 159 other entries, get what the others have.
func TestP24_3Behind(t *testing.T) {
	for n := 2; n <= 7; n++ {
		w := begin(t, fmt.Sprint(n, " nodes"), n, 394)
		others := []int{1, 2, 3, 4, 5, 6}[:n/2]
		w.elect(0, others...)
		w.alone(0, 158)
		w.calm(200)
		w.agree()
		check(t, w.what, len(w.c.View(n-1).Raft.Log) >= 159, true)
	}
	for n := 3; n <= 7; n += 2 {
		w := begin(t, fmt.Sprint(n, " nodes, two rows of entries"), n, 394)
		voters := []int{2, 3, 4, 5, 6}[:n/2]
		w.elect(0, voters...)
		w.alone(0, 157)
		w.elect(1, voters...)
		w.alone(1, 157)
		w.restart(1)
		w.elect(1, voters...)
		check(t, "the logs", []any{len(w.s[0].Log), len(w.s[1].Log), w.s[1].Next[0]}, []any{158, 159, 159})
		w.calm(200)
		w.agree()
		check(t, w.what, []any{len(w.c.View(0).Raft.Log), w.c.View(0).Raft.Log[9].Term}, []any{159, 2})
	}
}

func (w *words) tick(i int) {
	w.t.Helper()
	w.do(cluster.Event{Kind: cluster.Tick, Node: i})
}

// fall lets a node's power go out.
func (w *words) fall(i int) {
	w.t.Helper()
	w.do(cluster.Event{Kind: cluster.Arm, Node: i})
	for !w.down[i] {
		w.tick(i)
	}
}

func (w *words) restart(i int) {
	w.t.Helper()
	w.do(cluster.Event{Kind: cluster.Restart, Node: i})
}

func (w *words) propose(i int, data string) {
	w.t.Helper()
	if _, e := w.do(cluster.Event{Kind: cluster.Propose, Node: i, Data: data}); e != api.OK {
		w.fail("a proposal at node %d: error %d", i, e)
	}
}

// arrive lets the first such frame arrive.
func (w *words) arrive(is func(m api.Msg) bool) {
	w.t.Helper()
	k := slices.IndexFunc(w.way, is)
	if k < 0 {
		w.fail("no such frame of %+v", w.way)
	}
	w.do(cluster.Event{Kind: cluster.Arrive, Pick: k})
}

// lose loses all frames.
func (w *words) lose() {
	w.t.Helper()
	for w.c.Way() > 0 {
		w.do(cluster.Event{Kind: cluster.Lose})
	}
}

// recover lets all nodes be up, and no disk be armed.
func (w *words) recover() {
	w.t.Helper()
	for i := range w.s {
		if w.down[i] {
			w.restart(i)
		}
		w.do(cluster.Event{Kind: cluster.Arm, Node: i, Pick: -1})
	}
}

// elect lets a node ask for votes until it leads. Only these voters hear of it, and what it sends then is lost.
func (w *words) elect(i int, voters ...int) {
	w.t.Helper()
	for tries := 0; w.s[i].Role != raft.Leader; tries++ {
		if tries == 5 {
			w.fail("node %d doesn't lead: %+v", i, w.s[i])
		}
		w.lose()
		for term := w.s[i].Term; w.s[i].Term == term; {
			w.tick(i)
		}
		for _, v := range voters {
			w.arrive(func(m api.Msg) bool { return m.To == v })
		}
		for range voters {
			w.arrive(func(m api.Msg) bool { return m.Kind == raft.GiveVote })
		}
	}
	w.lose()
}

// share lets a leader's next beat, and what comes of it, go between it and these nodes alone.
func (w *words) share(i int, l ...int) {
	w.t.Helper()
	w.lose()
	for range raft.Beat {
		w.tick(i)
	}
	l = append(l, i)
	for len(w.way) > 0 {
		if m := w.way[0]; slices.Contains(l, m.From) && slices.Contains(l, m.To) {
			w.do(cluster.Event{Kind: cluster.Arrive})
		} else {
			w.do(cluster.Event{Kind: cluster.Lose})
		}
	}
}

// alone lets a leader take some entries that nobody hears of.
func (w *words) alone(i, many int) {
	w.t.Helper()
	for k := range many {
		w.propose(i, fmt.Sprint("nobody hears of ", k))
		if w.c.Way() > 150 {
			w.lose()
		}
	}
	w.lose()
}

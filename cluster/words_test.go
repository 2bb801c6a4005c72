package cluster_test

import (
	"fmt"
	"math/rand"
	"slices"
	"strings"
	"testing"

	"parley/api"
	"parley/cluster"
	"parley/raft"
)

// kept is what a node's disk keeps.
type kept struct {
	term, vote int
	log        []api.Entry
}

func keptOf(s api.Raft) kept {
	return kept{s.Term, s.Vote, s.Log}
}

func (k kept) equal(o kept) bool {
	return k.term == o.term && k.vote == o.vote && slices.Equal(k.log, o.log)
}

// begins tells whether the log has at least least entries, and is a beginning of another one.
func (k kept) begins(other []api.Entry, least int) bool {
	return len(k.log) >= least && len(k.log) <= len(other) && slices.Equal(k.log, other[:len(k.log)])
}

// mayBe tells whether a log may have this behind a power failure in which it was to keep what it should, and had what it was.
func (k kept) mayBe(was, should kept) bool {
	alike := 0
	for alike < min(len(was.log), len(should.log)) && was.log[alike] == should.log[alike] {
		alike++
	}
	isNew := k.term == should.term && k.vote == should.vote
	return k.equal(was) || isNew && (k.begins(was.log, alike) || k.begins(should.log, alike))
}

// words is a cluster beside one that goes by the document's words, without disks. Which nodes' power goes out is looked up; all else is held against the words.
type words struct {
	t           *testing.T
	what        string
	c           *cluster.Cluster
	s           []api.Raft
	down        []bool
	left        []int // so many changes an armed disk may keep yet; below 0: it isn't armed
	was, should []kept
	way         []api.Msg
	fell        int // how often a node went down
	partly      int // how often one came back with just a part of what it should have kept
	seen        *watch
}

func begin(t *testing.T, what string, n, blocks int) *words {
	t.Helper()
	c, e := cluster.New(n, blocks)
	if e != api.OK {
		t.Fatalf("%s: New: %d", what, e)
	}
	w := &words{t: t, what: what, c: c, down: make([]bool, n), was: make([]kept, n), should: make([]kept, n)}
	for i := range n {
		s, _ := raft.New(i, n, 3*i)
		w.s = append(w.s, s)
		w.left = append(w.left, -1)
	}
	w.hold("at the beginning")
	return w
}

func (w *words) fail(form string, args ...any) {
	w.t.Helper()
	w.t.Fatalf("%s: %.2000s", w.what, fmt.Sprintf(form, args...))
}

// hold holds all that can be seen against the words.
func (w *words) hold(behind string) {
	w.t.Helper()
	if w.c.Nodes() != len(w.s) || w.c.Way() != len(w.way) {
		w.fail("%s: %d nodes, %d frames under way, not %d, %d", behind, w.c.Nodes(), w.c.Way(), len(w.s), len(w.way))
	}
	for i, s := range w.s {
		v := w.c.View(i)
		if w.down[i] {
			s = api.Raft{}
		}
		if v.Up == w.down[i] || !sameState(v.Raft, s) {
			w.fail("%s: node %d: %+v\nnot %v, %+v", behind, i, v, !w.down[i], s)
		}
		if w.seen != nil && v.Up {
			w.seen.look(w, v.Raft)
		}
	}
}

func sameState(a, b api.Raft) bool {
	same := slices.Equal(a.Log, b.Log) && slices.Equal(a.Votes, b.Votes) && slices.Equal(a.Next, b.Next) && slices.Equal(a.Match, b.Match)
	return same && a.Self == b.Self && a.N == b.N && a.Term == b.Term && a.Vote == b.Vote && a.Role == b.Role && a.Leader == b.Leader && a.Commit == b.Commit && a.Clock == b.Clock && a.Limit == b.Limit
}

// do lets an event happen to both.
func (w *words) do(e cluster.Event) (int, api.Errno) {
	w.t.Helper()
	number, err := w.c.Do(e)
	behind := fmt.Sprintf("%+v", e)
	wantNumber, wantErr := w.step(e)
	if number != wantNumber || err != wantErr {
		w.fail("%s: %d, error %d, not %d, %d", behind, number, err, wantNumber, wantErr)
	}
	w.hold(behind)
	return number, err
}

// step lets an event happen by the words alone; the cluster is asked only which nodes it has left down.
func (w *words) step(e cluster.Event) (int, api.Errno) {
	switch e.Kind {
	case cluster.Arrive, cluster.Lose, cluster.Double:
		w.frame(e)
		return 0, api.OK
	case cluster.Tick, cluster.Arm, cluster.Restart, cluster.Propose:
	default:
		return 0, api.ErrArg
	}
	i := e.Node
	if i < 0 || i >= len(w.s) {
		return 0, api.ErrArg
	}
	if e.Kind == cluster.Restart {
		w.back(e)
		return 0, api.OK
	}
	if w.down[i] {
		return 0, api.ErrPower
	}
	switch e.Kind {
	case cluster.Tick:
		s, out := raft.Tick(w.s[i], e.Draw)
		w.take(i, s, out)
	case cluster.Arm:
		w.left[i] = max(e.Pick, -1)
	case cluster.Propose:
		s, out, number, err := raft.Propose(w.s[i], e.Data)
		if err != api.OK {
			return 0, err
		}
		if !w.take(i, s, out) {
			return 0, api.ErrPower
		}
		return number, api.OK
	}
	return 0, api.OK
}

func (w *words) frame(e cluster.Event) {
	if len(w.way) == 0 {
		return
	}
	k := e.Pick % len(w.way)
	if k < 0 {
		k += len(w.way)
	}
	m := w.way[k]
	if e.Kind != cluster.Double {
		w.way = slices.Delete(slices.Clone(w.way), k, k+1)
	}
	if e.Kind == cluster.Lose || w.down[m.To] {
		return
	}
	s, out := raft.Handle(w.s[m.To], m)
	w.take(m.To, s, out)
}

// take lets a node take a new state. A disk that isn't armed never loses its power; one that is does by its last call, and each change needs one at least.
func (w *words) take(i int, s api.Raft, out []api.Msg) bool {
	w.t.Helper()
	armed := w.left[i] >= 0
	if armed && !keptOf(s).equal(keptOf(w.s[i])) {
		w.left[i]--
	}
	if armed && !w.c.View(i).Up {
		w.fell++
		w.left[i] = -1
		w.down[i], w.was[i], w.should[i] = true, keptOf(w.s[i]), keptOf(s)
		return false
	}
	if armed && w.left[i] < 0 {
		w.fail("node %d is up, its power used up", i)
	}
	w.s[i] = s
	w.way = append(w.way, out...)
	w.way = w.way[max(0, len(w.way)-200):]
	return true
}

// back lets a node come back, whatever its disk has of what it was to keep.
func (w *words) back(e cluster.Event) {
	w.t.Helper()
	i := e.Node
	s := w.s[i]
	if w.down[i] {
		v := w.c.View(i).Raft
		s.Term, s.Vote, s.Log = v.Term, v.Vote, v.Log
		if got := keptOf(v); !got.mayBe(w.was[i], w.should[i]) {
			w.fail("behind %+v node %d has %+v\nit had %+v\nand was to have %+v", e, i, got, w.was[i], w.should[i])
		} else if !got.equal(w.was[i]) && !got.equal(w.should[i]) {
			w.partly++
		}
	}
	w.s[i], w.down[i], w.left[i] = raft.Restart(s, e.Draw), false, -1
}

// calm is Calm: of the words as they stand. No disk may be armed.
func (w *words) calm(rounds int) {
	w.t.Helper()
	w.c.Calm(rounds)
	for r := range rounds {
		for i := range w.s {
			w.step(cluster.Event{Kind: cluster.Tick, Node: i, Draw: 3*i + r})
			for many := 0; many < 2000 && len(w.way) > 0; many++ {
				w.step(cluster.Event{Kind: cluster.Arrive})
			}
		}
	}
	w.hold(fmt.Sprint("Calm of ", rounds))
}

// place is an entry's number and term.
type place struct{ number, term int }

// settled is a committed entry, and the least term of a node that has committed it.
type settled struct {
	entry api.Entry
	term  int
}

// watch is what has been seen of all nodes at any time.
type watch struct {
	led       map[int]int      // who led in a term
	upto      map[place]uint64 // a sum of the log up to there
	committed []settled
	last      map[int]api.Raft // the last state that was looked at
}

func newWatch() *watch {
	return &watch{led: map[int]int{}, upto: map[place]uint64{}, last: map[int]api.Raft{}}
}

// look holds a node's state against all that has been seen.
func (x *watch) look(w *words, s api.Raft) {
	w.t.Helper()
	if was, ok := x.last[s.Self]; ok && sameState(was, s) {
		return
	}
	x.last[s.Self] = s
	x.keeps(w, s)
	x.matches(w, s)
	if s.Role == raft.Leader {
		x.leads(w, s)
	}
}

func (x *watch) leads(w *words, s api.Raft) {
	w.t.Helper()
	if other, ok := x.led[s.Term]; ok && other != s.Self {
		w.fail("nodes %d and %d lead in term %d", other, s.Self, s.Term)
	}
	x.led[s.Term] = s.Self
	for at, k := range x.committed {
		if k.term < s.Term && (at >= len(s.Log) || s.Log[at] != k.entry) {
			w.fail("node %d leads in term %d without entry %d, committed in term %d", s.Self, s.Term, at+1, k.term)
		}
	}
}

func (x *watch) matches(w *words, s api.Raft) {
	w.t.Helper()
	sum := uint64(14695981039346656037)
	for at, e := range s.Log {
		for _, b := range []byte(e.Data) {
			sum = (sum ^ uint64(b)) * 1099511628211
		}
		sum = (sum ^ uint64(e.Term+1000)) * 1099511628211
		p := place{at + 1, e.Term}
		if other, ok := x.upto[p]; ok && other != sum {
			w.fail("node %d has another log up to entry %d of term %d", s.Self, at+1, e.Term)
		}
		x.upto[p] = sum
	}
}

func (x *watch) keeps(w *words, s api.Raft) {
	w.t.Helper()
	if s.Commit > len(s.Log) {
		w.fail("node %d has committed %d of %d", s.Self, s.Commit, len(s.Log))
	}
	for at, e := range s.Log[:s.Commit] {
		if at == len(x.committed) {
			x.committed = append(x.committed, settled{e, s.Term})
		}
		k := &x.committed[at]
		if k.entry != e {
			w.fail("node %d has committed %v as entry %d, not %v", s.Self, e, at+1, k.entry)
		}
		k.term = min(k.term, s.Term)
	}
}

// agree asks for one leader, equal logs, and all committed.
func (w *words) agree() {
	w.t.Helper()
	leaders := 0
	first := w.c.View(0).Raft
	for i := range w.c.Nodes() {
		v := w.c.View(i)
		if v.Raft.Role == raft.Leader {
			leaders++
		}
		if !v.Up || v.Raft.Commit != len(v.Raft.Log) || !slices.Equal(v.Raft.Log, first.Log) {
			w.fail("node %d: up %v, %d entries, %d committed; node 0 has %d", i, v.Up, len(v.Raft.Log), v.Raft.Commit, len(first.Log))
		}
	}
	if leaders != 1 {
		w.fail("%d leaders", leaders)
	}
}

// chances say how often what happens.
type chances struct {
	tick, arrive, lose, double, arm, restart, propose, wrong int
	fifo                                                     bool
}

func (c chances) sum() int {
	return c.tick + c.arrive + c.lose + c.double + c.arm + c.restart + c.propose + c.wrong
}

// anyChances are those of a storm in which the power goes out, or not.
func anyChances(r *rand.Rand, power bool) chances {
	c := chances{tick: 20 + r.Intn(200), arrive: 50 + r.Intn(400), lose: r.Intn(60), double: r.Intn(40), restart: r.Intn(8) * r.Intn(3), propose: 1 + r.Intn(20), wrong: 3, fifo: r.Intn(3) == 0}
	if power {
		c.arm, c.restart = r.Intn(20), 3+r.Intn(20)
	}
	return c
}

// anyInt is mostly near 0.
func anyInt(r *rand.Rand) int {
	return []int{0, -1, 1, r.Intn(10), -r.Intn(10), r.Intn(1000) - 500, 1<<63 - 1, -1 << 63}[r.Intn(8)]
}

// event is what happens next. most is how many entries a log may have for another one to be proposed.
func (c chances) event(r *rand.Rand, w *words, most int) cluster.Event {
	e := cluster.Event{Node: r.Intn(len(w.s)), Pick: anyInt(r), Draw: r.Intn(1000) - 500, Data: "not asked", Keep: r.Uint64() & r.Uint64(), Tear: r.Intn(9) - 1, Sectors: r.Intn(11) - 1}
	x := r.Intn(c.sum())
	at := func(part int) bool { x -= part; return x < 0 }
	switch {
	case at(c.tick):
		e.Kind = cluster.Tick
	case at(c.restart):
		e.Kind = cluster.Restart
		if i := slices.Index(w.down, true); i >= 0 && r.Intn(2) == 0 {
			e.Node = i
		}
		if r.Intn(3) == 0 {
			e.Keep = []uint64{0, ^uint64(0)}[r.Intn(2)]
		}
	case at(c.arm):
		e.Kind, e.Pick = cluster.Arm, r.Intn(1+r.Intn(60))-1
	case at(c.propose):
		e.Kind, e.Data = cluster.Propose, strings.Repeat("x", r.Intn(3)*r.Intn(40))+fmt.Sprint(r.Intn(1000000))
		if len(w.s[e.Node].Log) >= most {
			e.Kind = cluster.Tick
		}
	case at(c.wrong):
		e.Kind, e.Node = []int{-1, 7, 8, 0, 4, 5, 6}[r.Intn(7)], []int{-1, len(w.s), 1<<63 - 1, -1 << 63}[r.Intn(4)]
	case at(c.lose):
		e.Kind, e.Pick = cluster.Lose, r.Int()
	case at(c.double):
		e.Kind, e.Pick = cluster.Double, r.Int()
	default:
		e.Kind = cluster.Arrive
		if !c.fifo {
			e.Pick = r.Int() - r.Int()
		} else {
			e.Pick = 0
		}
	}
	return e
}

package raft_test

import (
	"fmt"
	"math/rand"
	"slices"
	"testing"

	"parley/api"
	"parley/raft"
)

// place is an entry's number and term.
type place struct{ number, term int }

// kept is a committed entry, and the least term of a node that has committed it.
type kept struct {
	entry api.Entry
	term  int
}

// nodes are some nodes, with the messages under way between them, and what has been seen of them at any time.
type nodes struct {
	t         *testing.T
	what      string
	l         []api.Raft
	way       []api.Msg
	led       map[int]int      // who led in a term
	upto      map[place]uint64 // a sum of the log up to there
	committed []kept
	leaders   int // how often a node began to lead
}

func start(t *testing.T, what string, n int) *nodes {
	t.Helper()
	w := &nodes{t: t, what: what, led: map[int]int{}, upto: map[place]uint64{}}
	for i := range n {
		s, e := raft.New(i, n, 3*i)
		check(t, "New", e, api.OK)
		w.l = append(w.l, s)
	}
	return w
}

// take lets a node have another state, sends messages, and looks whether all is still as promised.
func (w *nodes) take(i int, s api.Raft, out []api.Msg) {
	w.t.Helper()
	if s.Role == raft.Leader && w.l[i].Role != raft.Leader {
		w.leaders++
	}
	w.l[i] = s
	w.way = append(w.way, out...)
	w.oneLeader(s)
	w.logsMatch(s)
	w.keeps(s)
}

func (w *nodes) oneLeader(s api.Raft) {
	w.t.Helper()
	if s.Role != raft.Leader {
		return
	}
	if other, ok := w.led[s.Term]; ok && other != s.Self {
		w.t.Fatalf("%s: nodes %d and %d lead in term %d", w.what, other, s.Self, s.Term)
	}
	w.led[s.Term] = s.Self
	for at, k := range w.committed {
		if k.term < s.Term && (at >= len(s.Log) || s.Log[at] != k.entry) {
			w.t.Fatalf("%s: node %d leads in term %d without entry %d, committed in term %d", w.what, s.Self, s.Term, at+1, k.term)
		}
	}
}

func (w *nodes) logsMatch(s api.Raft) {
	w.t.Helper()
	sum := uint64(14695981039346656037)
	for at, e := range s.Log {
		for _, b := range []byte(fmt.Sprint(e.Term, " ", e.Data, ".")) {
			sum = (sum ^ uint64(b)) * 1099511628211
		}
		p := place{at + 1, e.Term}
		if other, ok := w.upto[p]; ok && other != sum {
			w.t.Fatalf("%s: node %d has another log up to entry %d of term %d", w.what, s.Self, at+1, e.Term)
		}
		w.upto[p] = sum
	}
}

func (w *nodes) keeps(s api.Raft) {
	w.t.Helper()
	if s.Commit > len(s.Log) {
		w.t.Fatalf("%s: node %d has committed %d of %d", w.what, s.Self, s.Commit, len(s.Log))
	}
	for at, e := range s.Log[:s.Commit] {
		if at == len(w.committed) {
			w.committed = append(w.committed, kept{e, s.Term})
		}
		k := &w.committed[at]
		if k.entry != e {
			w.t.Fatalf("%s: node %d has committed %v as entry %d, not %v", w.what, s.Self, e, at+1, k.entry)
		}
		k.term = min(k.term, s.Term)
	}
}

func (w *nodes) tick(i, draw int) {
	w.t.Helper()
	s, out := raft.Tick(w.l[i], draw)
	w.take(i, s, out)
}

func (w *nodes) restart(i, draw int) {
	w.t.Helper()
	w.take(i, raft.Restart(w.l[i], draw), nil)
}

func (w *nodes) propose(i int, data string) {
	w.t.Helper()
	if s, out, _, e := raft.Propose(w.l[i], data); e == api.OK {
		w.take(i, s, out)
	}
}

// arrive lets message k arrive; it is under way no more, if it isn't doubled.
func (w *nodes) arrive(k int, doubled bool) {
	w.t.Helper()
	m := w.way[k]
	if !doubled {
		w.way = slices.Delete(w.way, k, k+1)
	}
	s, out := raft.Handle(w.l[m.To], m)
	w.take(m.To, s, out)
}

// calm lets time go on, and all messages arrive.
func (w *nodes) calm(rounds int) {
	w.t.Helper()
	for r := range rounds {
		for i := range w.l {
			w.tick(i, 3*i+r)
			for many := 0; len(w.way) > 0 && many < 2000; many++ {
				w.arrive(0, false)
			}
		}
	}
}

// agree asks for one leader, equal logs, and all committed.
func (w *nodes) agree() {
	w.t.Helper()
	leaders := 0
	for _, s := range w.l {
		if s.Role == raft.Leader {
			leaders++
		}
		if s.Commit != len(s.Log) || !slices.Equal(s.Log, w.l[0].Log) {
			w.t.Fatalf("%s: node %d has %d entries, %d committed; node 0 %d", w.what, s.Self, len(s.Log), s.Commit, len(w.l[0].Log))
		}
	}
	if leaders != 1 {
		w.t.Fatalf("%s: %d leaders", w.what, leaders)
	}
}

// chances say how often what happens.
type chances struct {
	tick, arrive, lose, double, restart, propose, part int
	fifo                                               bool
}

func anyChances(r *rand.Rand) chances {
	return chances{tick: 20 + r.Intn(200), arrive: 50 + r.Intn(400), lose: r.Intn(60), double: r.Intn(40), restart: r.Intn(8) * r.Intn(3), propose: 1 + r.Intn(20), part: r.Intn(5), fifo: r.Intn(3) == 0}
}

func (c chances) sum() int {
	return c.tick + c.arrive + c.lose + c.double + c.restart + c.propose + c.part
}

// storm lets things happen by chance. parts are the nodes that hear of each other for some time: messages from one part to another one wait.
func (w *nodes) storm(r *rand.Rand, c chances, steps int) {
	w.t.Helper()
	parts := make([]int, len(w.l))
	for step := range steps {
		i, x := r.Intn(len(w.l)), r.Intn(c.sum())
		at := func(most int) bool { x -= most; return x < 0 }
		switch {
		case at(c.tick):
			w.tick(i, r.Intn(1000)-500)
		case at(c.restart):
			w.restart(i, r.Intn(1000)-500)
		case at(c.propose):
			w.propose(i, fmt.Sprint("step ", step))
		case at(c.part):
			for i := range parts {
				parts[i] = r.Intn(1 + r.Intn(2))
			}
		case len(w.way) == 0:
		case at(c.lose):
			k := r.Intn(len(w.way))
			w.way = slices.Delete(w.way, k, k+1)
		default:
			k := r.Intn(len(w.way))
			if c.fifo {
				k = 0
			}
			if m := w.way[k]; parts[m.From] == parts[m.To] {
				w.arrive(k, at(c.double))
			} else if c.fifo {
				w.way = append(w.way[1:], m)
			}
		}
		if len(w.way) > 60 {
			w.way = slices.Delete(w.way, 0, 1+r.Intn(30))
		}
	}
}

// TestP13_4Storms: whatever happens, all is as promised; and when it is calm at last, all agree.
func TestP13_4Storms(t *testing.T) {
	leaders, entries := 0, 0
	for seed := range 400 {
		r := rand.New(rand.NewSource(int64(seed)))
		w := start(t, fmt.Sprint("seed ", seed), 1+seed%7)
		for range 4 {
			w.storm(r, anyChances(r), 800)
		}
		leaders, entries = leaders+w.leaders, entries+len(w.committed)
		if len(w.l[0].Log) < 300 {
			w.calm(60)
			w.agree()
		}
	}
	if leaders < 1000 || entries < 5000 {
		t.Errorf("only %d leaders, and %d entries committed", leaders, entries)
	}
}

// TestP13_4Calm: nodes that nothing happens to agree on one leader, and on all that is proposed there.
func TestP13_4Calm(t *testing.T) {
	for n := 1; n <= 7; n++ {
		w := start(t, fmt.Sprint(n, " nodes"), n)
		w.calm(40)
		w.agree()
		check(t, w.what, []any{len(w.l[0].Log), w.leaders}, []any{1, 1})
		for i := range 150 {
			for k := range w.l {
				w.propose(k, fmt.Sprint("x", i))
			}
			if i%20 == 19 { // eight of them go out with each beat
				w.calm(9)
				w.agree()
				check(t, w.what, len(w.l[n-1].Log), i+2)
			}
		}
	}
}

// elect lets a node ask for votes until it leads. Only these voters hear of it, and what it sends then is lost.
func (w *nodes) elect(i int, voters ...int) {
	w.t.Helper()
	for tries := 0; w.l[i].Role != raft.Leader; tries++ {
		if tries == 5 {
			w.t.Fatalf("%s: node %d doesn't lead: %+v", w.what, i, w.l[i])
		}
		w.way = nil
		for term := w.l[i].Term; w.l[i].Term == term; {
			w.tick(i, 0)
		}
		for range 2 { // the asking, and the giving
			for _, m := range w.lost() {
				if m.From == i && slices.Contains(voters, m.To) || m.To == i && m.Kind == raft.GiveVote {
					s, out := raft.Handle(w.l[m.To], m)
					w.take(m.To, s, out)
				}
			}
		}
		w.way = nil
	}
}

// lost is all that is under way; it is so no more.
func (w *nodes) lost() []api.Msg {
	l := w.way
	w.way = nil
	return l
}

// share lets a leader's next beat, and what comes of it, go between it and these nodes alone.
func (w *nodes) share(i int, l ...int) {
	w.t.Helper()
	w.way = nil
	for range raft.Beat {
		w.tick(i, 0)
	}
	l = append(l, i)
	for len(w.way) > 0 {
		if m := w.way[0]; slices.Contains(l, m.From) && slices.Contains(l, m.To) {
			w.arrive(0, false)
		} else {
			w.way = w.way[1:]
		}
	}
}

// alone lets a leader take some entries that nobody hears of.
func (w *nodes) alone(i, many int) {
	w.t.Helper()
	for k := range many {
		w.propose(i, fmt.Sprint("nobody hears of ", k))
	}
	w.way = nil
}

// TestP13_4Earlier: entries of an earlier term that most nodes have aren't committed by that: a later leader may do without them, and does.
func TestP13_4Earlier(t *testing.T) {
	w := start(t, "entries of an earlier term", 5)
	w.elect(0, 1, 2)
	w.alone(0, 9)
	w.share(0, 1)
	w.share(0, 1)
	w.elect(4, 2, 3)
	w.restart(0, 0)
	w.elect(0, 1, 2)
	w.share(0, 1)
	w.share(0, 2)
	check(t, "the logs of 0, 1, 2, 4", []int{len(w.l[0].Log), len(w.l[1].Log), len(w.l[2].Log), len(w.l[4].Log)}, []int{11, 11, 8, 1})
	check(t, "what the leader knows, and has committed", []any{w.l[0].Match, w.l[0].Commit}, []any{[]int{11, 11, 8, 0, 0}, 0})
	w.restart(4, 0)
	w.elect(4, 2, 3)
	w.share(4, 2, 3)
	check(t, "what the later leader has committed", []any{w.l[4].Commit, w.l[4].Log[0].Term}, []any{2, 2})
	w.calm(60)
	w.agree()
}

// TestP13_4Own: with an entry of its own term that most nodes have, a leader commits the earlier ones, and no later leader does without them.
func TestP13_4Own(t *testing.T) {
	w := start(t, "entries of an earlier term, and one of its own", 5)
	w.elect(0, 1, 2)
	w.alone(0, 9)
	w.share(0, 1)
	w.share(0, 1)
	w.elect(4, 2, 3)
	w.restart(0, 0)
	w.elect(0, 1, 2)
	w.share(0, 1, 2)
	w.share(0, 1, 2)
	check(t, "what the leader has committed", w.l[0].Commit, 11)
	w.restart(4, 0)
	for range 5 {
		for range 30 {
			w.tick(4, 0)
		}
		for len(w.way) > 0 {
			w.arrive(0, false)
		}
	}
	w.calm(60)
	w.agree()
}

// TestP13_4Shortened: a node that led once, and whose log others have made shorter than what it knew of theirs, goes on, and leads again.
func TestP13_4Shortened(t *testing.T) {
	w := start(t, "a shortened log", 5)
	w.elect(0, 1, 2)
	w.alone(0, 12)
	w.share(0, 1)
	w.share(0, 1)
	check(t, "what the leader knows", []any{w.l[0].Next[1], w.l[0].Match[1], w.l[0].Commit}, []any{14, 13, 0})
	w.elect(4, 2, 3)
	w.share(4, 0, 1, 2, 3)
	w.share(4, 0, 1, 2, 3)
	check(t, "the logs", []any{len(w.l[0].Log), w.l[0].Commit, w.l[0].Role}, []any{1, 1, raft.Follower})
	w.elect(0, 1, 2)
	w.propose(0, "x")
	w.share(0, 1, 2, 3, 4)
	w.share(0, 1, 2, 3, 4)
	w.agree()
	check(t, "at last", []any{len(w.l[3].Log), w.l[3].Log[2].Data}, []any{3, "x"})
}

// TestP13_4Vote: a node that is restarted keeps its vote, so that no second one leads in the term.
func TestP13_4Vote(t *testing.T) {
	w := start(t, "a vote behind a restart", 3)
	for i := range 2 {
		for term := w.l[i].Term; w.l[i].Term == term; {
			w.tick(i, 0)
		}
	}
	asks := w.lost()
	for _, m := range asks {
		if m.To == 2 {
			s, out := raft.Handle(w.l[2], m)
			w.take(2, s, out)
			w.restart(2, 0)
		}
	}
	for len(w.way) > 0 {
		w.arrive(0, false)
	}
	check(t, "who leads", []int{w.l[0].Role, w.l[1].Role}, []int{raft.Leader, raft.Follower})
}

package raft_test

import (
	"fmt"
	"math"
	"math/rand"
	"slices"
	"strings"
	"testing"

	"parley/api"
	"parley/raft"
)

// words is a node that goes by the document's words, one by one, as slowly as they do.
type words struct {
	s   api.Raft
	out []api.Msg
}

func (w *words) say(m api.Msg) {
	m.From, m.Term = w.s.Self, w.s.Term
	w.out = append(w.out, m)
}

func (w *words) term(i int) int {
	for at, e := range w.s.Log {
		if at+1 == i {
			return e.Term
		}
	}
	return 0
}

func (w *words) offer(i int) {
	m := api.Msg{Kind: 3, To: i, Index: w.s.Next[i] - 1, Commit: w.s.Commit}
	m.LogTerm = w.term(m.Index)
	for at, e := range w.s.Log {
		if at+1 >= w.s.Next[i] && len(m.Entries) < 8 {
			m.Entries = append(m.Entries, e)
		}
	}
	w.say(m)
}

func (w *words) offers() {
	for i := 0; i < w.s.N; i++ {
		if i != w.s.Self {
			w.offer(i)
		}
	}
}

func (w *words) advance() {
	last := len(w.s.Log)
	found := w.s.Commit
	for k := w.s.Commit + 1; k <= last; k++ {
		ok := true
		for i := k; i <= last; i++ {
			ok = ok && w.term(i) == w.s.Term
		}
		have := 0.0
		for _, m := range w.s.Match {
			if m >= k {
				have++
			}
		}
		if ok && have > float64(w.s.N)/2 {
			found = k
		}
	}
	w.s.Commit = found
}

func (w *words) grow(data string) {
	w.s.Log = append(w.s.Log, api.Entry{Term: w.s.Term, Data: data})
	w.s.Match[w.s.Self] = len(w.s.Log)
	w.advance()
	w.offers()
}

func (w *words) count() {
	have := 0.0
	for _, v := range w.s.Votes {
		if v {
			have++
		}
	}
	if have <= float64(w.s.N)/2 {
		return
	}
	w.s.Role, w.s.Leader, w.s.Clock = 2, w.s.Self, 0
	for i := range w.s.Next {
		w.s.Next[i] = len(w.s.Log) + 1
		w.s.Match[i] = 0
	}
	if len(w.s.Log) < 400 {
		w.grow("")
	} else {
		w.s.Match[w.s.Self] = len(w.s.Log)
		w.offers()
	}
}

func (w *words) tick(draw int) {
	w.s.Clock++
	if w.s.Role == 2 {
		if w.s.Clock >= 3 {
			w.s.Clock = 0
			w.offers()
		}
		return
	}
	if w.s.Clock < w.s.Limit {
		return
	}
	w.s.Term++
	w.s.Role, w.s.Vote, w.s.Leader, w.s.Clock = 1, w.s.Self, -1, 0
	for w.s.Limit = draw % 10; w.s.Limit < 0; w.s.Limit += 10 {
	}
	w.s.Limit += 10
	for i := range w.s.Votes {
		w.s.Votes[i] = i == w.s.Self
	}
	for i := 0; i < w.s.N; i++ {
		if i != w.s.Self {
			w.say(api.Msg{Kind: 1, To: i, Index: len(w.s.Log), LogTerm: w.term(len(w.s.Log))})
		}
	}
	w.count()
}

func (w *words) nothing(m api.Msg) bool {
	for _, e := range m.Entries {
		if e.Term < 0 || len(e.Data) > 80 {
			return true
		}
	}
	return m.Kind < 1 || m.Kind > 4 || m.To != w.s.Self || m.From == w.s.Self || m.From < 0 || m.From >= w.s.N || m.Term < 0 || m.Index < 0
}

func (w *words) handle(m api.Msg) {
	if w.nothing(m) {
		return
	}
	if m.Term > w.s.Term {
		w.s.Term, w.s.Vote, w.s.Role, w.s.Leader = m.Term, -1, 0, -1
	}
	switch m.Kind {
	case 1:
		w.askVote(m)
	case 2:
		if w.s.Role == 1 && m.Term == w.s.Term && m.OK {
			w.s.Votes[m.From] = true
			w.count()
		}
	case 3:
		w.askAppend(m)
	case 4:
		w.appended(m)
	}
}

func (w *words) askVote(m api.Msg) {
	last := w.term(len(w.s.Log))
	ok := m.Term == w.s.Term
	if w.s.Vote != -1 && w.s.Vote != m.From {
		ok = false
	}
	if m.LogTerm < last || m.LogTerm == last && m.Index < len(w.s.Log) {
		ok = false
	}
	if ok {
		w.s.Vote, w.s.Clock = m.From, 0
	}
	w.say(api.Msg{Kind: 2, To: m.From, OK: ok})
}

func (w *words) askAppend(m api.Msg) {
	if m.Term < w.s.Term {
		w.say(api.Msg{Kind: 4, To: m.From, Index: len(w.s.Log)})
		return
	}
	if w.s.Role == 2 {
		return
	}
	w.s.Role, w.s.Leader, w.s.Clock = 0, m.From, 0
	if m.Index > len(w.s.Log) || w.term(m.Index) != m.LogTerm {
		index := m.Index - 1
		if index > len(w.s.Log) {
			index = len(w.s.Log)
		}
		if index < 0 {
			index = 0
		}
		w.say(api.Msg{Kind: 4, To: m.From, Index: index})
		return
	}
	many := 0
	differs := false
	for _, e := range m.Entries {
		place := m.Index + many + 1
		if place > 400 {
			break
		}
		if !differs && (place > len(w.s.Log) || w.s.Log[place-1].Term != e.Term) {
			differs = true
			w.s.Log = w.s.Log[:place-1]
		}
		if differs {
			w.s.Log = append(w.s.Log, e)
		}
		many++
	}
	commit := m.Commit
	if commit > m.Index+many {
		commit = m.Index + many
	}
	if commit > w.s.Commit {
		w.s.Commit = commit
	}
	w.say(api.Msg{Kind: 4, To: m.From, OK: true, Index: m.Index + many})
}

func (w *words) appended(m api.Msg) {
	if w.s.Role != 2 || m.Term != w.s.Term {
		return
	}
	if !m.OK {
		back := w.s.Next[m.From] - 1
		if m.Index < back-1 {
			back = m.Index + 1
		}
		if back < 1 {
			back = 1
		}
		w.s.Next[m.From] = back
		w.offer(m.From)
		return
	}
	index := m.Index
	if index > len(w.s.Log) {
		index = len(w.s.Log)
	}
	if index > w.s.Match[m.From] {
		w.s.Match[m.From] = index
	}
	w.s.Next[m.From] = w.s.Match[m.From] + 1
	w.advance()
}

func (w *words) propose(data string) (int, api.Errno) {
	switch {
	case w.s.Role != 2:
		return 0, api.ErrLeader
	case len(data) == 0:
		return 0, api.ErrArg
	case len(data) > 80 || len(w.s.Log) == 400:
		return 0, api.ErrBig
	}
	w.grow(data)
	return len(w.s.Log), api.OK
}

// terms is entries with terms that are like those of one log, or like nothing.
func terms(r *rand.Rand, n, upto int) []api.Entry {
	var l []api.Entry
	term := 0
	wild := r.Intn(4) == 0
	for i := range n {
		if wild {
			term = r.Intn(upto + 2)
		} else if r.Intn(3) == 0 {
			term = min(term+r.Intn(3), upto)
		}
		l = append(l, api.Entry{Term: term, Data: fmt.Sprint(i, "/", r.Intn(3))})
	}
	return l
}

// length is how many entries a log has: mostly few.
func length(r *rand.Rand) int {
	switch r.Intn(20) {
	case 0:
		return 400 - r.Intn(10)
	case 1:
		return r.Intn(401)
	case 2:
		return 0
	}
	return r.Intn(14)
}

// anyState is any state in form.
func anyState(r *rand.Rand) api.Raft {
	n := 1 + r.Intn(7)
	s := api.Raft{Self: r.Intn(n), N: n, Term: r.Intn(6), Vote: r.Intn(n+1) - 1, Role: r.Intn(3), Leader: r.Intn(n+1) - 1, Clock: r.Intn(16), Limit: r.Intn(21)}
	s.Log = terms(r, length(r), s.Term)
	last := len(s.Log)
	s.Commit = r.Intn(last + 1)
	for range n {
		s.Votes = append(s.Votes, r.Intn(2) == 0)
		s.Next = append(s.Next, 1+max(0, last-r.Intn(1+min(last, 20))))
		s.Match = append(s.Match, max(0, last-r.Intn(1+min(last, 10))))
	}
	if r.Intn(3) == 0 {
		s.Commit = max(0, last-r.Intn(6))
	}
	return s
}

// anyMsg is a message that is mostly one to this node, near to what its log has.
func anyMsg(r *rand.Rand, s api.Raft) api.Msg {
	m := api.Msg{Kind: 1 + r.Intn(4), From: r.Intn(s.N), To: s.Self, Term: max(0, s.Term+r.Intn(5)/2-1), OK: r.Intn(2) == 0, Hint: r.Intn(3)}
	last := len(s.Log)
	m.Index = max(0, last-r.Intn(10)+2)
	if m.Index > 0 && m.Index <= last {
		m.LogTerm = s.Log[m.Index-1].Term
	}
	if r.Intn(3) == 0 {
		m.LogTerm = r.Intn(7) - 1
	}
	m.Commit = max(-1, m.Index+r.Intn(15)-5)
	if r.Intn(2) == 0 {
		m.Entries = terms(r, r.Intn(12), s.Term)
	}
	for i := range m.Entries {
		if at := m.Index + i; at < last && r.Intn(5) > 0 {
			m.Entries[i].Term = s.Log[at].Term
		}
	}
	switch r.Intn(25) {
	case 0:
		m.Kind = r.Intn(8) - 1
	case 1:
		m.To = r.Intn(9) - 1
	case 2:
		m.From = r.Intn(9) - 1
	case 3:
		m.Term = -r.Intn(3)
	case 4:
		m.Index = []int{-1, math.MaxInt, math.MinInt, 400, 401, 0}[r.Intn(6)]
	case 5:
		m.Entries = append(m.Entries, api.Entry{Term: r.Intn(3) - 1, Data: strings.Repeat("x", 79+r.Intn(3))})
	case 6:
		m.Commit = []int{math.MaxInt, math.MinInt}[r.Intn(2)]
	}
	return m
}

// TestP13_1Words, and those below, hold any states and messages against the document's words.
func TestP13_1Words(t *testing.T) {
	r := rand.New(rand.NewSource(131))
	for range 40000 {
		s, draw := anyState(r), int(r.Uint64())>>r.Intn(64)
		w := &words{s: clone(s)}
		w.tick(draw)
		got, out := raft.Tick(s, draw)
		if !same(got, w.s) || !sameMsgs(out, w.out) {
			t.Fatalf("Tick of\n%+v, %d:\n%+v, %+v, not\n%+v, %+v", s, draw, got, out, w.s, w.out)
		}
	}
}

func TestP13_2Words(t *testing.T) {
	r := rand.New(rand.NewSource(132))
	for range 80000 {
		s := anyState(r)
		m := anyMsg(r, s)
		w := &words{s: clone(s)}
		w.handle(m)
		got, out := raft.Handle(s, m)
		if !same(got, w.s) || !sameMsgs(out, w.out) {
			t.Fatalf("Handle of\n%+v,\n%+v:\n%+v, %+v, not\n%+v, %+v", s, m, got, out, w.s, w.out)
		}
	}
}

func TestP13_3Words(t *testing.T) {
	r := rand.New(rand.NewSource(133))
	for range 20000 {
		s, data := anyState(r), strings.Repeat("d", []int{0, 1, 1, 1, 79, 80, 81, 300}[r.Intn(8)])
		w := &words{s: clone(s)}
		number, e := w.propose(data)
		got, out, at, f := raft.Propose(s, data)
		if !same(got, w.s) || !sameMsgs(out, w.out) || at != number || f != e {
			t.Fatalf("Propose of\n%+v, %d bytes:\n%+v, %+v, %d, %d, not\n%+v, %+v, %d, %d", s, len(data), got, out, at, f, w.s, w.out, number, e)
		}
	}
}

// roomy is the list with room behind it that has something in it.
func roomy[T any](l []T, more ...T) []T {
	return append(copied(l), more...)[:len(l)]
}

// whole is a list with all the room behind it.
func whole[T any](l []T) []T {
	return l[:cap(l)]
}

func roomyState(s api.Raft) api.Raft {
	x := api.Entry{Term: 77, Data: "behind"}
	s.Log = roomy(s.Log, x, x, x, x, x, x, x, x, x, x, x, x, x)
	s.Votes, s.Next, s.Match = roomy(s.Votes, true, true), roomy(s.Next, 77, 78), roomy(s.Match, 77, 78)
	return s
}

func wholeState(s api.Raft) api.Raft {
	s.Log, s.Votes, s.Next, s.Match = whole(s.Log), whole(s.Votes), whole(s.Next), whole(s.Match)
	return s
}

// spoil overwrites all the memory of a state and of messages.
func spoil(s api.Raft, l []api.Msg) {
	s = wholeState(s)
	clear(s.Votes)
	for i := range s.Log {
		s.Log[i] = api.Entry{Term: -9, Data: "spoilt"}
	}
	for i := range s.Next {
		s.Next[i] = -9
	}
	for i := range s.Match {
		s.Match[i] = -9
	}
	for _, m := range l {
		spoilList(m.Entries)
	}
	clear(whole(l))
}

func spoilList(l []api.Entry) {
	for i := range whole(l) {
		whole(l)[i] = api.Entry{Term: -9, Data: "spoilt"}
	}
}

// TestP13_5: no call changes what it is handed, nor the room behind it; what it answers is memory of its own.
func TestP13_5(t *testing.T) {
	r := rand.New(rand.NewSource(135))
	for range 4000 {
		s := roomyState(anyState(r))
		m := anyMsg(r, s)
		m.Entries = roomy(m.Entries, api.Entry{Term: 7, Data: "behind"})
		was, wasEntries := clone(wholeState(s)), copied(whole(m.Entries))
		for what, f := range map[string]func() (api.Raft, []api.Msg){
			"Restart":    func() (api.Raft, []api.Msg) { return raft.Restart(s, 3), nil },
			"Tick":       func() (api.Raft, []api.Msg) { return raft.Tick(s, 3) },
			"Handle":     func() (api.Raft, []api.Msg) { return raft.Handle(s, m) },
			"Propose":    func() (api.Raft, []api.Msg) { p, out, _, _ := raft.Propose(s, "x"); return p, out },
			"no Propose": func() (api.Raft, []api.Msg) { p, out, _, _ := raft.Propose(s, ""); return p, out },
		} {
			first, out := f()
			second, again := f()
			want, wanted := clone(second), cloneAll(again)
			spoil(first, out)
			if !same(wholeState(s), was) || !slices.Equal(whole(m.Entries), wasEntries) {
				t.Fatalf("%s has changed what it was handed, or shares it", what)
			}
			if !same(second, want) || !sameMsgs(again, wanted) {
				t.Fatalf("%s: two answers share memory", what)
			}
			apart(t, what, second, again)
		}
	}
	first, _ := raft.New(1, 3, 0)
	second, _ := raft.New(1, 3, 0)
	want := clone(second)
	spoil(first, nil)
	check(t, "New", second, want)
}

// apart spoils the lists of one answer one by one, and looks at those that are left.
func apart(t *testing.T, what string, s api.Raft, l []api.Msg) {
	t.Helper()
	wanted := cloneAll(l)
	spoil(s, nil)
	for i := range l {
		if !sameMsgs(l[i:], wanted[i:]) {
			t.Fatalf("%s: a message shares memory with the state, or with the one ahead of it", what)
		}
		spoilList(l[i].Entries)
	}
}

// TestP13_5Taken: the entries of a message aren't shared with the log that takes them.
func TestP13_5Taken(t *testing.T) {
	s, _ := raft.New(1, 3, 0)
	m := api.Msg{Kind: raft.AskAppend, From: 2, To: 1, Term: 1, Entries: row(1, 1, 1)}
	s, _ = raft.Handle(s, m)
	spoilList(m.Entries)
	check(t, "the log", s.Log, row(1, 1, 1))
}

// TestOtherStates: whatever a state says of itself, each call ends, and none panics.
func TestOtherStates(t *testing.T) {
	r := rand.New(rand.NewSource(136))
	odd := []int{math.MinInt, math.MinInt + 1, -1, 0, 1, 2, 7, 8, 400, 401, math.MaxInt - 1, math.MaxInt}
	pick := func() int { return odd[r.Intn(len(odd))] }
	for range 30000 {
		s := anyState(r)
		for range 1 + r.Intn(3) {
			switch r.Intn(13) {
			case 0:
				s.N = pick()
			case 1:
				s.Self = pick()
			case 2:
				s.Term = pick()
			case 3:
				s.Role = pick()
			case 4:
				s.Commit = pick()
			case 5:
				s.Clock, s.Limit = pick(), pick()
			case 6:
				s.Next[r.Intn(len(s.Next))] = pick()
			case 7:
				s.Match[r.Intn(len(s.Match))] = pick()
			case 8:
				s.Votes = s.Votes[1:]
				s.Votes = append(s.Votes, make([]bool, r.Intn(3))...)
				s.Match = append(s.Match, make([]int, r.Intn(2))...)
				s.Next = append(s.Next, make([]int, r.Intn(2))...)
				ends(s, anyMsg(r, anyState(r)), pick())
				s.Votes, s.Next, s.Match = []bool{true}, []int{5}, []int{5}
			case 9:
				s.Log = append(s.Log, long(500, s.Term)...)
			case 10:
				s.Log = append(s.Log, api.Entry{Term: -1}, api.Entry{Term: math.MaxInt, Data: strings.Repeat("x", 81)})
			case 11:
				s.Vote, s.Leader = pick(), pick()
			case 12:
				s.Log = nil
			}
		}
		m := anyMsg(r, anyState(r))
		if r.Intn(4) > 0 {
			m.To, m.From = s.Self, r.Intn(7)
		}
		ends(s, m, pick())
	}
	least := []int{math.MinInt, math.MinInt, math.MinInt}
	s := with(state(3, nil), leads, commit(math.MinInt), match(least...), next(least...), func(s *api.Raft) { s.Term = 0 })
	ends(s, api.Msg{Kind: raft.Appended, From: 2, To: 1, OK: true}, 0)
	ends(s, api.Msg{Kind: raft.Appended, From: 2, To: 1}, 0)
	for range 100 {
		ends(api.Raft{}, anyMsg(r, anyState(r)), pick())
	}
}

func ends(s api.Raft, m api.Msg, draw int) {
	raft.Restart(s, draw)
	raft.Tick(s, draw)
	raft.Handle(s, m)
	raft.Propose(s, "x")
}

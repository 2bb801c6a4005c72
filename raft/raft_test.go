package raft_test

import (
	"fmt"
	"math"
	"reflect"
	"slices"
	"strings"
	"testing"

	"parley/api"
	"parley/raft"
)

func check(t *testing.T, what string, got, want any) {
	t.Helper()
	if g, w := fmt.Sprintf("%+v", got), fmt.Sprintf("%+v", want); g != w {
		t.Errorf("%s: %.500s, not %.500s", what, g, w)
	}
}

// copied is the list in memory of its own; nil, if it is empty, because that is the same.
func copied[T any](l []T) []T {
	return append([]T(nil), l...)
}

func clone(s api.Raft) api.Raft {
	s.Log, s.Votes, s.Next, s.Match = copied(s.Log), copied(s.Votes), copied(s.Next), copied(s.Match)
	return s
}

func cloneAll(l []api.Msg) []api.Msg {
	c := copied(l)
	for i := range c {
		c[i].Entries = copied(c[i].Entries)
	}
	return c
}

func same(a, b api.Raft) bool {
	return reflect.DeepEqual(clone(a), clone(b))
}

func sameMsgs(a, b []api.Msg) bool {
	return reflect.DeepEqual(cloneAll(a), cloneAll(b))
}

// row is entries of these terms, each with its number as data.
func row(terms ...int) []api.Entry {
	var l []api.Entry
	for i, term := range terms {
		l = append(l, api.Entry{Term: term, Data: fmt.Sprint("e", i+1)})
	}
	return l
}

// long is n entries of a term.
func long(n, term int) []api.Entry {
	return row(slices.Repeat([]int{term}, n)...)
}

// state is node 1 of n, a follower of term 5, with these entries.
func state(n int, log []api.Entry) api.Raft {
	return api.Raft{Self: 1, N: n, Term: 5, Vote: -1, Leader: -1, Log: log, Votes: make([]bool, n), Next: slices.Repeat([]int{1}, n), Match: make([]int, n), Clock: 4, Limit: 12}
}

// with is the state behind some changes.
func with(s api.Raft, changes ...func(s *api.Raft)) api.Raft {
	s = clone(s)
	for _, f := range changes {
		f(&s)
	}
	return s
}

// leads makes a state that of a leader that knows nothing of the others yet.
func leads(s *api.Raft) {
	s.Role, s.Leader, s.Vote = raft.Leader, s.Self, s.Self
	s.Match[s.Self] = len(s.Log)
}

// stands makes a state that of a candidate with its own vote.
func stands(s *api.Raft) {
	s.Role, s.Vote = raft.Candidate, s.Self
	s.Votes[s.Self] = true
}

func clock(n int) func(s *api.Raft) {
	return func(s *api.Raft) { s.Clock = n }
}

func commit(n int) func(s *api.Raft) {
	return func(s *api.Raft) { s.Commit = n }
}

func next(l ...int) func(s *api.Raft) {
	return func(s *api.Raft) { s.Next = copied(l) }
}

func match(l ...int) func(s *api.Raft) {
	return func(s *api.Raft) { s.Match = copied(l) }
}

func votes(l ...bool) func(s *api.Raft) {
	return func(s *api.Raft) { s.Votes = copied(l) }
}

// behind puts entries behind the log.
func behind(l ...api.Entry) func(s *api.Raft) {
	return func(s *api.Raft) { s.Log = append(s.Log, l...) }
}

// later is what a message of a later term makes of any node.
func later(term int) func(s *api.Raft) {
	return func(s *api.Raft) { s.Term, s.Vote, s.Role, s.Leader = term, -1, raft.Follower, -1 }
}

// equals holds a state and messages against those that are wanted.
func equals(t *testing.T, what string, s api.Raft, l []api.Msg, want api.Raft, wanted []api.Msg) {
	t.Helper()
	if !same(s, want) {
		t.Errorf("%s: the state is\n%+v, not\n%+v", what, s, want)
	}
	if !sameMsgs(l, wanted) {
		t.Errorf("%s: the messages are\n%+v, not\n%+v", what, l, wanted)
	}
}

func TestP13_1New(t *testing.T) {
	check(t, "the roles", []int{raft.Follower, raft.Candidate, raft.Leader}, []int{0, 1, 2})
	check(t, "the kinds", []int{raft.AskVote, raft.GiveVote, raft.AskAppend, raft.Appended}, []int{1, 2, 3, 4})
	check(t, "the numbers", []int{raft.Beat, raft.Patient, raft.MaxSend}, []int{3, 10, 8})
	for n := 1; n <= 7; n++ {
		for self := range n {
			s, e := raft.New(self, n, self)
			check(t, "New", e, api.OK)
			equals(t, fmt.Sprintf("node %d of %d", self, n), s, nil, api.Raft{Self: self, N: n, Vote: -1, Leader: -1, Votes: make([]bool, n), Next: slices.Repeat([]int{1}, n), Match: make([]int, n), Limit: 10 + self}, nil)
		}
	}
	for _, c := range [][2]int{{0, 0}, {0, -1}, {0, 8}, {7, 8}, {0, math.MaxInt}, {0, math.MinInt}, {-1, 3}, {3, 3}, {1, 1}, {7, 7}, {-1, 0}, {-1, 7}, {math.MaxInt, 7}, {math.MinInt, 7}, {-3, -2}} {
		s, e := raft.New(c[0], c[1], 5)
		check(t, fmt.Sprintf("node %d of %d", c[0], c[1]), e, api.ErrArg)
		equals(t, fmt.Sprintf("node %d of %d", c[0], c[1]), s, nil, api.Raft{}, nil)
	}
}

// draws are some draws, with the limits that come of them.
func draws() [][2]int {
	return [][2]int{{0, 10}, {1, 11}, {9, 19}, {10, 10}, {25, 15}, {-1, 19}, {-9, 11}, {-10, 10}, {-11, 19}, {math.MaxInt, 17}, {math.MinInt, 12}}
}

// TestP13_1Limit: a limit is drawn in New, in Restart, and when a node asks for votes.
func TestP13_1Limit(t *testing.T) {
	for _, d := range draws() {
		s, _ := raft.New(1, 3, d[0])
		back := raft.Restart(state(3, nil), d[0])
		asks, _ := raft.Tick(with(state(3, nil), clock(11)), d[0])
		early, _ := raft.Tick(with(state(3, nil), clock(10)), d[0])
		beats, _ := raft.Tick(with(state(3, nil), leads), d[0])
		check(t, fmt.Sprint("limit of ", d[0]), []int{s.Limit, back.Limit, asks.Limit, early.Limit, beats.Limit}, []int{d[1], d[1], d[1], 12, 12})
	}
}

func TestP13_1Restart(t *testing.T) {
	for _, s := range []api.Raft{
		with(state(5, row(1, 2, 4)), stands, commit(2)),
		with(state(5, row(1, 2, 4)), leads, commit(3), next(4, 2, 3, 1, 4), match(3, 3, 2, 0, 1), votes(true, true, true, false, true)),
		with(state(5, row(1, 2, 4)), func(s *api.Raft) { s.Vote, s.Leader, s.Clock, s.Limit = 4, 4, 11, 19 }),
	} {
		want, _ := raft.New(1, 5, 6)
		want.Term, want.Vote, want.Log = 5, s.Vote, row(1, 2, 4)
		equals(t, "Restart", raft.Restart(s, 6), nil, want, nil)
	}
	s, _ := raft.New(0, 1, 0)
	equals(t, "Restart of a new one", raft.Restart(s, 10), nil, s, nil)
	full := with(state(7, long(400, 3)), leads)
	check(t, "Restart of a full one", raft.Restart(full, 0).Log, long(400, 3))
}

// TestP13_1Examples: a node alone leads behind ten ticks; one of three asks for votes.
func TestP13_1Examples(t *testing.T) {
	one, _ := raft.New(0, 1, 0)
	three, _ := raft.New(0, 3, 0)
	var out, asks []api.Msg
	for i := range 10 {
		if one.Role != raft.Follower || one.Clock != i || three.Role != raft.Follower || three.Clock != i {
			t.Fatalf("tick %d: %+v, %+v", i, one, three)
		}
		one, out = raft.Tick(one, 3)
		three, asks = raft.Tick(three, 4)
		if i < 9 && len(out)+len(asks) > 0 {
			t.Fatalf("tick %d: %v, %v", i, out, asks)
		}
	}
	equals(t, "alone", one, out, api.Raft{N: 1, Term: 1, Role: raft.Leader, Log: []api.Entry{{Term: 1}}, Commit: 1, Votes: []bool{true}, Next: []int{1}, Match: []int{1}, Limit: 13}, nil)
	equals(t, "of three", three, asks,
		api.Raft{N: 3, Term: 1, Role: raft.Candidate, Leader: -1, Votes: []bool{true, false, false}, Next: []int{1, 1, 1}, Match: []int{0, 0, 0}, Limit: 14},
		[]api.Msg{{Kind: raft.AskVote, To: 1, Term: 1}, {Kind: raft.AskVote, To: 2, Term: 1}})
}

// TestP13_1Wait: a node that doesn't lead waits up to its limit.
func TestP13_1Wait(t *testing.T) {
	for _, c := range []struct {
		clock, limit int
		asks         bool
	}{
		{0, 12, false}, {10, 12, false}, {11, 12, true}, {12, 12, true}, {500, 12, true}, {math.MaxInt, 12, true},
		{0, 1, true}, {0, 0, true}, {0, 2, false}, {2, 10, false}, {math.MaxInt - 2, math.MaxInt, false}, {math.MaxInt - 1, math.MaxInt, true},
	} {
		for _, role := range []func(s *api.Raft){func(*api.Raft) {}, stands, func(s *api.Raft) { s.Vote, s.Leader = 0, 0 }} {
			s := with(state(3, row(1, 4)), role, clock(c.clock), votes(true, true, false), func(s *api.Raft) { s.Limit = c.limit })
			want, asks := with(s, clock(c.clock+1)), []api.Msg(nil)
			if c.asks {
				want = with(s, clock(0), votes(false, true, false), func(s *api.Raft) {
					s.Term, s.Role, s.Vote, s.Leader, s.Limit = 6, raft.Candidate, 1, -1, 17
				})
				asks = []api.Msg{{Kind: raft.AskVote, From: 1, To: 0, Term: 6, Index: 2, LogTerm: 4}, {Kind: raft.AskVote, From: 1, To: 2, Term: 6, Index: 2, LogTerm: 4}}
			}
			got, out := raft.Tick(s, 7)
			equals(t, fmt.Sprintf("clock %d of %d", c.clock, c.limit), got, out, want, asks)
		}
	}
}

// TestP13_1Beat: a leader sends at each third tick.
func TestP13_1Beat(t *testing.T) {
	for _, c := range []struct {
		clock int
		beats bool
	}{{0, false}, {1, false}, {2, true}, {3, true}, {40, true}, {math.MaxInt, true}} {
		s := with(state(4, row(1, 2, 5)), leads, clock(c.clock), commit(2), next(4, 2, 3, 1), match(2, 3, 1, 0))
		want, out := with(s, clock(c.clock+1)), []api.Msg(nil)
		if c.beats {
			want = with(s, clock(0))
			out = []api.Msg{
				{Kind: raft.AskAppend, From: 1, To: 0, Term: 5, Index: 3, LogTerm: 5, Commit: 2},
				{Kind: raft.AskAppend, From: 1, To: 2, Term: 5, Index: 2, LogTerm: 2, Commit: 2, Entries: s.Log[2:]},
				{Kind: raft.AskAppend, From: 1, To: 3, Term: 5, Index: 0, LogTerm: 0, Commit: 2, Entries: s.Log},
			}
		}
		got, msgs := raft.Tick(s, 7)
		equals(t, fmt.Sprint("a leader's clock ", c.clock), got, msgs, want, out)
	}
	alone := with(api.Raft{N: 1, Log: row(1), Votes: []bool{true}, Next: []int{1}, Match: []int{1}}, leads, clock(2))
	got, msgs := raft.Tick(alone, 7)
	equals(t, "a leader alone", got, msgs, with(alone, clock(0)), nil)
}

// TestP13_1Offer: an offer has the entries from Next on, eight at most.
func TestP13_1Offer(t *testing.T) {
	log := slices.Concat(row(1, 1, 2), long(20, 5)[3:])
	for at := 1; at <= 21; at++ {
		s := with(state(2, log), leads, clock(2), next(at, 9))
		_, out := raft.Tick(s, 0)
		want := api.Msg{Kind: raft.AskAppend, From: 1, Term: 5, Index: at - 1, Entries: log[at-1 : min(at+7, 20)]}
		if at > 1 {
			want.LogTerm = log[at-2].Term
		}
		if !sameMsgs(out, []api.Msg{want}) {
			t.Errorf("Next %d: %+v", at, out)
		}
	}
}

// TestP13_1Alone: a node alone leads as soon as it asks; its first entry commits all ahead of it, but where there is no room for one.
func TestP13_1Alone(t *testing.T) {
	for _, c := range []struct {
		log    []api.Entry
		commit int
	}{{nil, 1}, {row(1, 1, 2), 4}, {row(6), 2}, {row(9, 6), 3}, {long(399, 2), 400}} {
		s := api.Raft{N: 1, Term: 5, Vote: -1, Leader: -1, Log: c.log, Votes: []bool{false}, Next: []int{1}, Match: []int{0}, Limit: 10, Clock: 9}
		got, out := raft.Tick(s, 0)
		equals(t, fmt.Sprint(len(c.log), " entries"), got, out, with(s, leads, clock(0), behind(api.Entry{Term: 6}), commit(c.commit), next(len(c.log)+1), match(len(c.log)+1), votes(true), func(s *api.Raft) { s.Term = 6 }), nil)
	}
	full := api.Raft{N: 1, Term: 5, Vote: -1, Leader: -1, Log: long(400, 2), Commit: 7, Votes: []bool{false}, Next: []int{1}, Match: []int{0}, Limit: 10, Clock: 9}
	got, out := raft.Tick(full, 0)
	equals(t, "a full log", got, out, with(full, leads, clock(0), next(401), match(400), votes(true), func(s *api.Raft) { s.Term = 6 }), nil)
}

// handled is what a row of the tables for Handle asks.
type handled struct {
	what string
	s    api.Raft
	m    api.Msg
	then []func(s *api.Raft)
	out  []api.Msg
}

func run(t *testing.T, rows []handled) {
	t.Helper()
	for _, c := range rows {
		got, out := raft.Handle(c.s, c.m)
		equals(t, c.what, got, out, with(c.s, c.then...), c.out)
	}
}

// to is a row of changes.
func to(l ...func(s *api.Raft)) []func(s *api.Raft) {
	return l
}

// TestP13_2Heeds: a message that isn't one of another node to this one changes nothing, whatever its term.
func TestP13_2Heeds(t *testing.T) {
	s := with(state(3, row(1, 2)), stands)
	wrong := map[string]func(m *api.Msg){
		"kind 0":                         func(m *api.Msg) { m.Kind = 0 },
		"kind 5":                         func(m *api.Msg) { m.Kind = 5 },
		"a kind below 0":                 func(m *api.Msg) { m.Kind = -1 },
		"a great kind":                   func(m *api.Msg) { m.Kind = math.MaxInt },
		"to another":                     func(m *api.Msg) { m.To = 0 },
		"to a node that isn't":           func(m *api.Msg) { m.To = 3 },
		"from itself":                    func(m *api.Msg) { m.From = 1 },
		"from a node that isn't":         func(m *api.Msg) { m.From = 3 },
		"from a node below 0":            func(m *api.Msg) { m.From = -1 },
		"from the greatest":              func(m *api.Msg) { m.From = math.MaxInt },
		"from the least":                 func(m *api.Msg) { m.From = math.MinInt },
		"a term below 0":                 func(m *api.Msg) { m.Term = -1 },
		"an index below 0":               func(m *api.Msg) { m.Index = -1 },
		"an entry with a term below 0":   func(m *api.Msg) { m.Entries = []api.Entry{{}, {Term: -1}} },
		"an entry with too much of Data": func(m *api.Msg) { m.Entries = []api.Entry{{}, {Data: strings.Repeat("x", 81)}} },
	}
	for kind := 1; kind <= 4; kind++ {
		for _, term := range []int{4, 5, 9} {
			for what, f := range wrong {
				m := api.Msg{Kind: kind, From: 2, To: 1, Term: term, Index: 2, LogTerm: 2, OK: true}
				f(&m)
				for _, s := range []api.Raft{s, with(s, leads), state(3, row(1, 2))} {
					got, out := raft.Handle(s, m)
					equals(t, fmt.Sprintf("%s, kind %d, term %d", what, kind, term), got, out, s, nil)
				}
			}
		}
	}
	alone := with(api.Raft{N: 1, Votes: []bool{true}, Next: []int{1}, Match: []int{0}}, leads)
	got, out := raft.Handle(alone, api.Msg{Kind: raft.AskVote, Term: 7})
	equals(t, "a node alone", got, out, alone, nil)
}

// TestP13_2Fits: what isn't asked of a message: other fields may be anything, and an entry may be as great as one can be.
func TestP13_2Fits(t *testing.T) {
	s := state(3, nil)
	m := api.Msg{Kind: raft.AskVote, From: 2, To: 1, Term: 6, LogTerm: -1, Commit: -1, Hint: -1, Entries: []api.Entry{{Data: strings.Repeat("x", 80)}, {Term: math.MaxInt}}}
	got, out := raft.Handle(s, m)
	equals(t, "an AskVote", got, out, with(s, later(6)), []api.Msg{{Kind: raft.GiveVote, From: 1, To: 2, Term: 6}})
	m.Kind, m.LogTerm, m.Commit = raft.AskAppend, 0, -5
	got, out = raft.Handle(s, m)
	equals(t, "an AskAppend", got, out, with(s, later(6), behind(m.Entries...), clock(0), func(s *api.Raft) { s.Leader = 2 }), []api.Msg{{Kind: raft.Appended, From: 1, To: 2, Term: 6, OK: true, Index: 2}})
}

// TestP13_2Later: a later term makes a follower of each node, whatever the message.
func TestP13_2Later(t *testing.T) {
	for _, role := range []func(s *api.Raft){leads, stands, func(s *api.Raft) { s.Vote, s.Leader = 0, 2 }} {
		s := with(state(3, row(1, 2)), role, votes(true, true, true), next(3, 3, 2), match(1, 2, 0), commit(1))
		for _, m := range []api.Msg{
			{Kind: raft.GiveVote, OK: true}, {Kind: raft.GiveVote}, {Kind: raft.Appended, OK: true, Index: 2}, {Kind: raft.Appended},
		} {
			for _, term := range []int{6, 7, math.MaxInt} {
				m.From, m.To, m.Term = 2, 1, term
				got, out := raft.Handle(s, m)
				equals(t, fmt.Sprintf("%+v", m), got, out, with(s, later(term)), nil)
			}
		}
		got, out := raft.Handle(s, api.Msg{Kind: raft.AskVote, From: 2, To: 1, Term: 6, Index: 9, LogTerm: 1})
		equals(t, "an AskVote of an old log", got, out, with(s, later(6)), []api.Msg{{Kind: raft.GiveVote, From: 1, To: 2, Term: 6}})
		got, out = raft.Handle(s, api.Msg{Kind: raft.AskVote, From: 2, To: 1, Term: 6, Index: 2, LogTerm: 2})
		equals(t, "an AskVote of one as new", got, out, with(s, later(6), clock(0), func(s *api.Raft) { s.Vote = 2 }), []api.Msg{{Kind: raft.GiveVote, From: 1, To: 2, Term: 6, OK: true}})
		got, out = raft.Handle(s, api.Msg{Kind: raft.AskAppend, From: 2, To: 1, Term: 6, Index: 2, LogTerm: 2, Commit: 2})
		equals(t, "an AskAppend", got, out, with(s, later(6), clock(0), commit(2), func(s *api.Raft) { s.Leader = 2 }), []api.Msg{{Kind: raft.Appended, From: 1, To: 2, Term: 6, OK: true, Index: 2}})
	}
}

func TestP13_2AskVote(t *testing.T) {
	s := state(5, row(1, 2, 4))
	vote := func(v int) func(s *api.Raft) { return func(s *api.Raft) { s.Vote = v } }
	m := api.Msg{Kind: raft.AskVote, From: 3, To: 1, Term: 5, Index: 3, LogTerm: 4}
	with2 := func(index, term int) api.Msg { m := m; m.Index, m.LogTerm = index, term; return m }
	yes := []api.Msg{{Kind: raft.GiveVote, From: 1, To: 3, Term: 5, OK: true}}
	no := []api.Msg{{Kind: raft.GiveVote, From: 1, To: 3, Term: 5}}
	given := to(vote(3), clock(0))
	old := m
	old.Term = 4
	run(t, []handled{
		{"the same log", s, m, given, yes},
		{"once more", with(s, vote(3)), m, given, yes},
		{"another one has the vote", with(s, vote(2)), m, nil, no},
		{"it has its own vote", with(s, stands), m, nil, no},
		{"it leads", with(s, leads), m, nil, no},
		{"a longer log", s, with2(4, 4), given, yes},
		{"a shorter log", s, with2(2, 4), nil, no},
		{"a shorter log of a later term", s, with2(1, 5), given, yes},
		{"a longer log of an earlier term", s, with2(400, 3), nil, no},
		{"the longest one of an earlier term", s, with2(math.MaxInt, 3), nil, no},
		{"no log", s, with2(0, 0), nil, no},
		{"no logs", state(5, nil), with2(0, 0), given, yes},
		{"a first entry of term 0", state(5, nil), with2(1, 0), given, yes},
		{"a term below 0", state(5, nil), with2(9, -1), nil, no},
		{"an earlier term", s, old, nil, no},
		{"an earlier term, of the one that has the vote", with(s, vote(3)), old, nil, no},
		{"a later term, another one had the vote", with(s, vote(2)), api.Msg{Kind: raft.AskVote, From: 3, To: 1, Term: 6, Index: 3, LogTerm: 4}, to(later(6), vote(3), clock(0)), []api.Msg{{Kind: raft.GiveVote, From: 1, To: 3, Term: 6, OK: true}}},
		{"a later term, and a shorter log", with(s, vote(3)), api.Msg{Kind: raft.AskVote, From: 3, To: 1, Term: 6, Index: 2, LogTerm: 4}, to(later(6)), []api.Msg{{Kind: raft.GiveVote, From: 1, To: 3, Term: 6}}},
	})
}

// TestP13_2GiveVote: more than half of the votes make a leader, whose first entry is of its own term.
func TestP13_2GiveVote(t *testing.T) {
	log := row(1, 2, 4)
	give := func(from, term int, ok bool) api.Msg {
		return api.Msg{Kind: raft.GiveVote, From: from, To: 1, Term: term, OK: ok}
	}
	s := with(state(5, log), stands, commit(1), next(4, 3, 2, 1, 4), match(3, 1, 2, 0, 3))
	var offers []api.Msg
	for _, i := range []int{0, 2, 3, 4} {
		offers = append(offers, api.Msg{Kind: raft.AskAppend, From: 1, To: i, Term: 5, Index: 3, LogTerm: 4, Commit: 1, Entries: []api.Entry{{Term: 5}}})
	}
	led := to(leads, clock(0), next(4, 4, 4, 4, 4), match(0, 4, 0, 0, 0), behind(api.Entry{Term: 5}))
	run(t, []handled{
		{"the second vote of five", s, give(3, 5, true), to(votes(false, true, false, true, false)), nil},
		{"the same one again", with(s, votes(false, true, false, true, false)), give(3, 5, true), nil, nil},
		{"the third vote of five", with(s, votes(false, true, false, true, false)), give(4, 5, true), append(to(votes(false, true, false, true, true)), led...), offers},
		{"the third vote of six", with(state(6, log), stands, votes(true, true, false, false, false, false)), give(4, 5, true), to(votes(true, true, false, false, true, false)), nil},
		{"the second vote of two", with(state(2, nil), stands), give(0, 5, true), to(votes(true, true), leads, clock(0), next(1, 1), match(0, 1), behind(api.Entry{Term: 5})), []api.Msg{{Kind: raft.AskAppend, From: 1, Term: 5, Entries: []api.Entry{{Term: 5}}}}},
		{"a vote refused", with(s, votes(true, true, false, false, false)), give(3, 5, false), nil, nil},
		{"a vote of an earlier term", with(s, votes(true, true, false, false, false)), give(3, 4, true), nil, nil},
		{"a follower", with(state(3, log), votes(true, false, false)), give(2, 5, true), nil, nil},
		{"one that leads already", with(state(3, log), leads, votes(true, true, false), match(3, 3, 0)), give(2, 5, true), nil, nil},
		{"a vote of a later term", with(s, votes(true, true, false, false, false)), give(3, 6, true), to(later(6)), nil},
	})
}

// TestP13_2Full: a leader with a full log has no entry of its own; all others have one, whatever their room.
func TestP13_2Full(t *testing.T) {
	give := api.Msg{Kind: raft.GiveVote, From: 2, To: 1, Term: 5, OK: true}
	all := votes(false, true, true)
	for _, n := range []int{398, 399, 400} {
		s := with(state(3, long(n, 3)), stands)
		want := with(s, leads, all, clock(0), next(n+1, n+1, n+1))
		offer := api.Msg{Kind: raft.AskAppend, From: 1, To: 0, Term: 5, Index: n, LogTerm: 3}
		if n < 400 {
			want = with(want, behind(api.Entry{Term: 5}), match(0, n+1, 0))
			offer.Entries = []api.Entry{{Term: 5}}
		}
		second := offer
		second.To = 2
		got, out := raft.Handle(s, give)
		equals(t, fmt.Sprint(n, " entries"), got, out, want, []api.Msg{offer, second})
	}
}

// TestP13_2AskAppend: where the entries go, and what is answered.
func TestP13_2AskAppend(t *testing.T) {
	s := with(state(3, row(1, 2, 2, 4)), func(s *api.Raft) { s.Vote = 0 }, commit(1))
	heard := func(s *api.Raft) { s.Role, s.Leader, s.Clock = raft.Follower, 2, 0 }
	log := func(l ...api.Entry) func(s *api.Raft) { return func(s *api.Raft) { s.Log = l } }
	offer := func(index, term, commit int, l ...api.Entry) api.Msg {
		return api.Msg{Kind: raft.AskAppend, From: 2, To: 1, Term: 5, Index: index, LogTerm: term, Commit: commit, Entries: l}
	}
	yes := func(index int) []api.Msg {
		return []api.Msg{{Kind: raft.Appended, From: 1, To: 2, Term: 5, OK: true, Index: index}}
	}
	no := func(index int) []api.Msg {
		return []api.Msg{{Kind: raft.Appended, From: 1, To: 2, Term: 5, Index: index}}
	}
	x, y := api.Entry{Term: 5, Data: "x"}, api.Entry{Term: 5, Data: "y"}
	other := api.Entry{Term: 2, Data: "another of that term"}
	early := offer(4, 4, 4, x)
	early.Term = 4
	run(t, []handled{
		{"an earlier term", s, early, nil, no(4)},
		{"an earlier term, no log", state(3, nil), early, nil, no(0)},
		{"an earlier term, it leads", with(s, leads), early, nil, no(4)},
		{"an earlier term, it stands", with(s, stands), early, nil, no(4)},
		{"it leads itself", with(s, leads), offer(4, 4, 4, x), nil, nil},
		{"nothing", s, offer(4, 4, 0), to(heard), yes(4)},
		{"it stands", with(s, stands), offer(4, 4, 0), to(heard), yes(4)},
		{"it follows another one", with(s, func(s *api.Raft) { s.Leader = 0 }), offer(4, 4, 0), to(heard), yes(4)},
		{"behind the end", s, offer(5, 5, 4, x), to(heard), no(4)},
		{"behind the end by far", s, offer(400, 0, 4, x), to(heard), no(4)},
		{"behind the end as far as can be", s, offer(math.MaxInt, 0, 4, x), to(heard), no(4)},
		{"just behind the end, of no term", s, offer(5, 0, 4, x), to(heard), no(4)},
		{"another term at the end", s, offer(4, 3, 4, x), to(heard), no(3)},
		{"another term in between", s, offer(2, 1, 4, x), to(heard), no(1)},
		{"another term at the first one", s, offer(1, 2, 4, x), to(heard), no(0)},
		{"another term ahead of all", s, offer(0, 1, 4, x), to(heard), no(0)},
		{"a term below 0", s, offer(0, -1, 4, x), to(heard), no(0)},
		{"it stands, and another term", with(s, stands), offer(2, 1, 4, x), to(heard), no(1)},
		{"two more", s, offer(4, 4, 0, x, y), to(heard, behind(x, y)), yes(6)},
		{"the first ones", state(3, nil), offer(0, 0, 0, x, y), to(heard, behind(x, y)), yes(2)},
		{"as many as there are, all of them there", s, offer(0, 0, 0, row(1, 2, 2, 4)...), to(heard), yes(4)},
		{"some in between, there already", s, offer(1, 1, 0, row(1, 2, 2)[1:]...), to(heard), yes(3)},
		{"one there already, with other data", s, offer(1, 1, 0, other), to(heard), yes(2)},
		{"nothing in between", s, offer(2, 2, 0), to(heard), yes(2)},
		{"nothing ahead of all", s, offer(0, 0, 0), to(heard), yes(0)},
		{"another one in between", s, offer(2, 2, 0, x), to(heard, log(append(row(1, 2), x)...)), yes(3)},
		{"another one at the end", s, offer(3, 2, 0, x), to(heard, log(append(row(1, 2, 2), x)...)), yes(4)},
		{"one there, the next one another", s, offer(1, 1, 0, other, x, y), to(heard, log(append(row(1, 2), x, y)...)), yes(4)},
		{"some there, some behind the end", s, offer(2, 2, 0, row(1, 2, 2, 4, 4)[2:]...), to(heard, behind(row(1, 2, 2, 4, 4)[4])), yes(5)},
		{"another one, and one as it is there behind it", s, offer(2, 2, 0, x, api.Entry{Term: 4, Data: "z"}), to(heard, log(append(row(1, 2), x, api.Entry{Term: 4, Data: "z"})...)), yes(4)},
		{"all others", s, offer(0, 0, 0, x), to(heard, log(x)), yes(1)},
		{"an entry of an earlier term instead", s, offer(3, 2, 0, other), to(heard, log(append(row(1, 2, 2), other)...)), yes(4)},
		{"more than a leader sends", s, offer(4, 4, 20, long(20, 5)...), to(heard, behind(long(20, 5)...), commit(20)), yes(24)},
	})
}

// TestP13_2Commit: an AskAppend commits what the leader has committed, but nothing that it doesn't speak of.
func TestP13_2Commit(t *testing.T) {
	x := api.Entry{Term: 5, Data: "x"}
	for _, c := range []struct {
		what          string
		index, commit int
		entries       []api.Entry
		was, want     int
	}{
		{"all", 4, 4, nil, 0, 4},
		{"some", 4, 3, nil, 0, 3},
		{"none", 4, 0, nil, 0, 0},
		{"more than there are", 4, 9, nil, 0, 4},
		{"as many as can be", 4, math.MaxInt, nil, 0, 4},
		{"below 0", 4, -1, nil, 0, 0},
		{"fewer than before", 4, 1, nil, 3, 3},
		{"as many as before", 4, 3, nil, 3, 3},
		{"more than it speaks of", 2, 4, nil, 1, 2},
		{"more than it speaks of, fewer than before", 2, 4, nil, 3, 3},
		{"with an entry", 4, 5, []api.Entry{x}, 0, 5},
		{"with an entry there already", 2, 4, row(1, 2, 2)[2:], 0, 3},
		{"an entry that isn't committed", 4, 4, []api.Entry{x}, 0, 4},
	} {
		terms := []int{0, 1, 2, 2, 4}
		s := with(state(3, row(terms[1:]...)), commit(c.was))
		got, _ := raft.Handle(s, api.Msg{Kind: raft.AskAppend, From: 2, To: 1, Term: 5, Index: c.index, LogTerm: terms[c.index], Commit: c.commit, Entries: c.entries})
		check(t, c.what, got.Commit, c.want)
	}
	refused, _ := raft.Handle(state(3, row(1, 2)), api.Msg{Kind: raft.AskAppend, From: 2, To: 1, Term: 5, Index: 2, LogTerm: 3, Commit: 2})
	check(t, "one that doesn't fit", refused.Commit, 0)
}

// TestP13_2Room: entries for which there is no room are left out, as if they hadn't been sent.
func TestP13_2Room(t *testing.T) {
	for _, c := range []struct {
		there, index, sent, last int
	}{
		{395, 395, 8, 400}, {392, 392, 8, 400}, {391, 391, 8, 399}, {399, 399, 1, 400}, {400, 400, 1, 400}, {400, 400, 0, 400}, {400, 396, 8, 400}, {400, 399, 2, 400}, {10, 10, 500, 400}, {0, 0, 401, 400},
	} {
		s := state(2, long(c.there, 4))
		m := api.Msg{Kind: raft.AskAppend, To: 1, Term: 5, Index: c.index, Entries: long(c.sent, 5), Commit: 500}
		if c.index > 0 {
			m.LogTerm = 4
		}
		want := with(s, clock(0), commit(c.last), func(s *api.Raft) {
			s.Leader, s.Log = 0, slices.Concat(s.Log[:c.index], m.Entries[:c.last-c.index])
		})
		got, out := raft.Handle(s, m)
		equals(t, fmt.Sprintf("%d entries, %d behind number %d", c.there, c.sent, c.index), got, out, want, []api.Msg{{Kind: raft.Appended, From: 1, Term: 5, OK: true, Index: c.last}})
	}
}

// TestP13_2NotAppended: a leader goes back, and offers again.
func TestP13_2NotAppended(t *testing.T) {
	log := row(1, 2, 2, 4, 5, 5)
	for _, c := range []struct{ next, index, want int }{
		{7, 5, 6}, {7, 6, 6}, {7, 4, 5}, {7, 0, 1}, {7, 1, 2}, {7, math.MaxInt, 6}, {4, 6, 3}, {4, 2, 3}, {4, 1, 2}, {2, 6, 1}, {2, 0, 1}, {1, 6, 1}, {1, 0, 1}, {1, math.MaxInt, 1},
	} {
		s := with(state(3, log), leads, commit(1), next(6, 7, c.next), match(2, 6, 3))
		got, out := raft.Handle(s, api.Msg{Kind: raft.Appended, From: 2, To: 1, Term: 5, Index: c.index})
		want := api.Msg{Kind: raft.AskAppend, From: 1, To: 2, Term: 5, Index: c.want - 1, Commit: 1, Entries: log[c.want-1:]}
		if c.want > 1 {
			want.LogTerm = log[c.want-2].Term
		}
		equals(t, fmt.Sprintf("Next %d, Index %d", c.next, c.index), got, out, with(s, next(6, 7, c.want)), []api.Msg{want})
	}
}

func TestP13_2Appended(t *testing.T) {
	log := row(1, 2, 2, 4, 5, 5)
	s := with(state(5, log), leads, commit(1), next(7, 7, 4, 7, 7), match(0, 6, 3, 0, 0))
	answer := func(from, term, index int, ok bool) api.Msg {
		return api.Msg{Kind: raft.Appended, From: from, To: 1, Term: term, Index: index, OK: ok}
	}
	run(t, []handled{
		{"further", s, answer(2, 5, 4, true), to(next(7, 7, 5, 7, 7), match(0, 6, 4, 0, 0)), nil},
		{"as far as before", s, answer(2, 5, 3, true), nil, nil},
		{"less far than before", s, answer(2, 5, 1, true), nil, nil},
		{"less far than before, where Next is elsewhere", with(s, next(7, 7, 2, 7, 7)), answer(2, 5, 0, true), to(next(7, 7, 4, 7, 7)), nil},
		{"nothing", s, answer(3, 5, 0, true), to(next(7, 7, 4, 1, 7)), nil},
		{"beyond the end", s, answer(3, 5, 9, true), to(next(7, 7, 4, 7, 7), match(0, 6, 3, 6, 0)), nil},
		{"beyond the end as far as can be", s, answer(3, 5, math.MaxInt, true), to(next(7, 7, 4, 7, 7), match(0, 6, 3, 6, 0)), nil},
		{"three of five", with(s, match(0, 6, 6, 0, 0)), answer(3, 5, 5, true), to(next(7, 7, 4, 6, 7), match(0, 6, 6, 5, 0), commit(5)), nil},
		{"an earlier term", with(s, match(0, 6, 6, 0, 0)), answer(3, 4, 5, true), nil, nil},
		{"an earlier term, not OK", s, answer(3, 4, 2, false), nil, nil},
		{"a follower", with(state(5, log), match(0, 6, 6, 0, 0)), answer(3, 5, 5, true), nil, nil},
		{"a follower, not OK", state(5, log), answer(3, 5, 2, false), nil, nil},
		{"a candidate", with(state(5, log), stands, match(0, 6, 6, 0, 0)), answer(3, 5, 5, true), nil, nil},
		{"a later term", with(s, match(0, 6, 6, 0, 0)), answer(3, 6, 5, true), to(later(6)), nil},
	})
}

// TestP13_2Advance: what is committed: entries of the leader's term that most nodes have, with all ahead of them.
func TestP13_2Advance(t *testing.T) {
	for _, c := range []struct {
		what   string
		terms  []int
		commit int
		match  []int // node 2's comes in
		want   int
	}{
		{"two of three", []int{5, 5}, 0, []int{0, 2, 2}, 2},
		{"two of three have the first one", []int{5, 5}, 0, []int{0, 2, 1}, 1},
		{"nobody else", []int{5, 5}, 0, []int{0, 2, 0}, 0},
		{"without itself", []int{5, 5}, 0, []int{2, 0, 2}, 2},
		{"two of four", []int{5, 5}, 0, []int{0, 2, 2, 0}, 0},
		{"three of four", []int{5, 5}, 0, []int{1, 2, 2, 0}, 1},
		{"an earlier term, most have it", []int{4, 4, 5}, 0, []int{2, 3, 2}, 0},
		{"an earlier term, all have it", []int{4, 4}, 0, []int{2, 2, 2}, 0},
		{"an earlier term with one of this", []int{4, 4, 5}, 0, []int{0, 3, 3}, 3},
		{"the greatest one that most have", []int{1, 5, 5, 5, 5}, 1, []int{3, 5, 4, 2, 0}, 3},
		{"committed already", []int{5, 5, 5}, 3, []int{0, 3, 1}, 3},
		{"some committed already", []int{5, 5, 5}, 1, []int{0, 3, 2}, 2},
		{"this term ahead of another one", []int{5, 5, 4}, 0, []int{3, 3, 3}, 0},
		{"this term ahead of another one, and behind it", []int{5, 4, 5}, 0, []int{1, 3, 1}, 0},
		{"this term ahead of another one, and behind it, all have it", []int{5, 4, 5}, 0, []int{3, 3, 3}, 3},
		{"a later term", []int{5, 6}, 0, []int{2, 2, 2}, 0},
	} {
		n := len(c.match)
		s := with(state(n, row(c.terms...)), leads, commit(c.commit), match(c.match...), func(s *api.Raft) { s.Match[2] = 0 })
		got, out := raft.Handle(s, api.Msg{Kind: raft.Appended, From: 2, To: 1, Term: 5, Index: c.match[2], OK: true})
		want := with(s, commit(c.want), match(c.match...), func(s *api.Raft) { s.Next[2] = c.match[2] + 1 })
		equals(t, c.what, got, out, want, nil)
	}
}

// TestP13_2Example: the document's second example.
func TestP13_2Example(t *testing.T) {
	s := with(state(3, row(1, 2)), func(s *api.Raft) { s.Term = 2 })
	run(t, []handled{
		{"AskAppend of term 1", s, api.Msg{Kind: raft.AskAppend, From: 0, To: 1, Term: 1}, nil, []api.Msg{{Kind: raft.Appended, From: 1, To: 0, Term: 2, Index: 2}}},
		{"AskVote of term 5", s, api.Msg{Kind: raft.AskVote, From: 0, To: 1, Term: 5, Index: 1, LogTerm: 1}, to(later(5)), []api.Msg{{Kind: raft.GiveVote, From: 1, To: 0, Term: 5}}},
	})
}

// TestP13_3: an entry more, with the messages that tell of it, and the errors in their order.
func TestP13_3(t *testing.T) {
	s := with(state(3, row(1, 5)), leads, commit(1), next(3, 2, 1), match(2, 2, 0))
	for _, data := range []string{"x", "\x00", strings.Repeat("x", 79), strings.Repeat("\xff", 80)} {
		x := api.Entry{Term: 5, Data: data}
		got, out, at, e := raft.Propose(s, data)
		check(t, "Propose", []any{at, e}, []any{3, api.OK})
		equals(t, "Propose", got, out, with(s, behind(x), match(2, 3, 0), commit(2)), []api.Msg{
			{Kind: raft.AskAppend, From: 1, To: 0, Term: 5, Index: 2, LogTerm: 5, Commit: 2, Entries: []api.Entry{x}},
			{Kind: raft.AskAppend, From: 1, To: 2, Term: 5, Commit: 2, Entries: append(row(1, 5), x)},
		})
	}
	full := with(state(3, long(400, 5)), leads)
	for _, c := range []struct {
		what string
		s    api.Raft
		data string
		want api.Errno
	}{
		{"a follower", state(3, row(1)), "x", api.ErrLeader},
		{"one that knows the leader", with(state(3, row(1)), func(s *api.Raft) { s.Leader = 2 }), "x", api.ErrLeader},
		{"a candidate", with(state(3, row(1)), stands), "x", api.ErrLeader},
		{"a follower, no data", state(3, row(1)), "", api.ErrLeader},
		{"a follower, too much", state(3, row(1)), strings.Repeat("x", 81), api.ErrLeader},
		{"a follower with a full log", state(3, long(400, 5)), "x", api.ErrLeader},
		{"no data", s, "", api.ErrArg},
		{"no data, and a full log", full, "", api.ErrArg},
		{"too much", s, strings.Repeat("x", 81), api.ErrBig},
		{"far too much", s, strings.Repeat("x", 100000), api.ErrBig},
		{"a full log", full, "x", api.ErrBig},
		{"too much, and a full log", full, strings.Repeat("x", 81), api.ErrBig},
	} {
		got, out, at, e := raft.Propose(c.s, c.data)
		check(t, c.what, []any{at, e}, []any{0, c.want})
		equals(t, c.what, got, out, c.s, nil)
	}
}

// TestP13_3Last: the last entry for which there is room, and none behind it.
func TestP13_3Last(t *testing.T) {
	s := with(state(2, long(399, 5)), leads, next(392, 1))
	got, out, at, e := raft.Propose(s, "x")
	check(t, "the last one", []any{at, e}, []any{400, api.OK})
	x := api.Entry{Term: 5, Data: "x"}
	equals(t, "the last one", got, out, with(s, behind(x), match(0, 400)), []api.Msg{{Kind: raft.AskAppend, From: 1, Term: 5, Index: 391, LogTerm: 5, Entries: s.Log[391:399]}})
	_, _, at, e = raft.Propose(got, "y")
	check(t, "behind it", []any{at, e}, []any{0, api.ErrBig})
	alone := with(api.Raft{N: 1, Term: 5, Log: row(2), Votes: []bool{true}, Next: []int{1}, Match: []int{1}}, leads)
	got, out, at, e = raft.Propose(alone, "x")
	check(t, "alone", []any{at, e}, []any{2, api.OK})
	equals(t, "alone", got, out, with(alone, behind(x), match(2), commit(2)), nil)
}

package raft

import (
	"slices"

	"parley/api"
	"parley/rlog"
)

// heeds tells whether the message may be one of another node to this one.
func (n *node) heeds(m api.Msg) bool {
	return m.Kind >= AskVote && m.Kind <= Appended && m.To == n.Self &&
		m.From >= 0 && m.From < n.N && m.From != n.Self &&
		m.Term >= 0 && m.Index >= 0 && !slices.ContainsFunc(m.Entries, isNone)
}

func isNone(e api.Entry) bool {
	return !rlog.Check(e)
}

// handle takes a message that it heeds. A later term ends all that the node was in its own.
func (n *node) handle(m api.Msg) {
	if m.Term > n.Term {
		n.Term, n.Vote, n.Role, n.Leader = m.Term, nobody, Follower, nobody
	}
	switch m.Kind {
	case AskVote:
		n.asked(m)
	case GiveVote:
		n.given(m)
	case AskAppend:
		n.offered(m)
	case Appended:
		n.answered(m)
	}
}

// asked: another node wants this one's vote.
func (n *node) asked(m api.Msg) {
	free := n.Vote == nobody || n.Vote == m.From
	ok := m.Term == n.Term && free && n.asNew(m)
	if ok {
		n.Vote, n.Clock = m.From, 0
	}
	n.send(api.Msg{Kind: GiveVote, To: m.From, OK: ok})
}

// asNew tells whether the log that ends as the message says is as new as the node's: what is committed stays so, because nobody votes for an older one.
func (n *node) asNew(m api.Msg) bool {
	last := n.term(len(n.Log))
	return m.LogTerm > last || m.LogTerm == last && m.Index >= len(n.Log)
}

// given: another node has answered whether this one has its vote.
func (n *node) given(m api.Msg) {
	if n.Role == Candidate && m.Term == n.Term && m.OK {
		n.Votes[m.From] = true
		n.count()
	}
}

// offered: a leader has sent entries.
func (n *node) offered(m api.Msg) {
	if m.Term < n.Term {
		n.reply(m, false, len(n.Log))
		return
	}
	if n.Role == Leader {
		return
	}
	n.Role, n.Leader, n.Clock = Follower, m.From, 0
	if m.Index > len(n.Log) || n.term(m.Index) != m.LogTerm {
		n.reply(m, false, max(min(len(n.Log), m.Index-1), 0))
		return
	}
	room := max(api.MaxLog-m.Index, 0)
	entries := m.Entries[:min(len(m.Entries), room)]
	n.take(m.Index, entries)
	upto := m.Index + len(entries)
	n.Commit = max(n.Commit, min(m.Commit, upto))
	n.reply(m, true, upto)
}

// take puts the entries behind number i. What is there already stays, and what lies behind it: the message may be an old one.
func (n *node) take(i int, entries []api.Entry) {
	for j, e := range entries {
		at := i + j
		if at >= len(n.Log) || n.Log[at].Term != e.Term {
			n.Log = append(n.Log[:at], entries[j:]...)
			return
		}
	}
}

// reply tells a leader up to where the node's log is its own, or where to try next.
func (n *node) reply(m api.Msg, ok bool, index int) {
	n.send(api.Msg{Kind: Appended, To: m.From, OK: ok, Index: index})
}

// answered: another node has answered what this one sent.
func (n *node) answered(m api.Msg) {
	if n.Role != Leader || m.Term != n.Term {
		return
	}
	i := m.From
	if !m.OK {
		n.Next[i] = max(min(n.Next[i]-2, m.Index)+1, 1) // Index may be the greatest number
		n.offer(i)
		return
	}
	n.Match[i] = max(n.Match[i], min(m.Index, len(n.Log)))
	n.Next[i] = n.Match[i] + 1
	n.advance()
}

package raft

import (
	"parley/api"
)

// node is a state that is being changed, in memory of its own, and what it sends meanwhile.
type node struct {
	api.Raft
	out []api.Msg
}

func open(s api.Raft) *node {
	n := &node{Raft: s}
	n.Log, n.Votes, n.Next, n.Match = copied(s.Log), copied(s.Votes), copied(s.Next), copied(s.Match)
	return n
}

func copied[T any](l []T) []T {
	return append([]T(nil), l...)
}

// sized tells whether the lists have a place for each node. No more of the form is asked: Next and Match of a node that led once may be beyond its log, when others have made that shorter, and it must go on all the same.
func (n *node) sized() bool {
	return n.Self >= 0 && n.Self < n.N && len(n.Votes) == n.N && len(n.Next) == n.N && len(n.Match) == n.N
}

// tick holds the clock against its end ahead of its rise, for it may be the greatest number.
func (n *node) tick(draw int) {
	end := n.Limit
	if n.Role == Leader {
		end = Beat
	}
	if n.Clock < end-1 {
		n.Clock++
		return
	}
	n.Clock = 0
	if n.Role == Leader {
		n.others(n.offer)
		return
	}
	n.Limit = limit(draw)
	n.stand()
}

// stand begins a term of its own, and asks for votes.
func (n *node) stand() {
	n.Term++
	n.Role, n.Vote, n.Leader = Candidate, n.Self, nobody
	clear(n.Votes)
	n.Votes[n.Self] = true
	n.others(n.ask)
	n.count()
}

// count makes the node the leader, if enough have voted for it.
func (n *node) count() {
	if n.most(n.voted) {
		n.lead()
	}
}

// lead begins with an entry of its own term: behind that the entries of earlier terms can be committed, too.
func (n *node) lead() {
	n.Role, n.Leader, n.Clock = Leader, n.Self, 0
	for i := range n.N {
		n.Next[i], n.Match[i] = len(n.Log)+1, 0
	}
	if len(n.Log) < api.MaxLog {
		n.grow("")
		return
	}
	n.Match[n.Self] = len(n.Log)
	n.others(n.offer)
}

// grow puts an entry more behind the log.
func (n *node) grow(data string) {
	n.Log = append(n.Log, api.Entry{Term: n.Term, Data: data})
	n.Match[n.Self] = len(n.Log)
	n.advance()
	n.others(n.offer)
}

// refusal answers why the log can't grow by data.
func (n *node) refusal(data string) api.Errno {
	switch {
	case n.Role != Leader:
		return api.ErrLeader
	case data == "":
		return api.ErrArg
	case len(data) > api.MaxData || len(n.Log) >= api.MaxLog:
		return api.ErrBig
	case !n.sized():
		return api.ErrForm
	}
	return api.OK
}

// advance commits what most nodes have. Entries of earlier terms are committed with one of this term alone: a later leader may still do without those that most nodes have.
func (n *node) advance() {
	for k := len(n.Log); k > 0 && k > n.Commit && n.term(k) == n.Term; k-- {
		if n.most(func(i int) bool { return n.Match[i] >= k }) {
			n.Commit = k
			return
		}
	}
}

// most tells whether f holds of more than half of the nodes.
func (n *node) most(f func(i int) bool) bool {
	count := 0
	for i := range n.N {
		if f(i) {
			count++
		}
	}
	return 2*count > n.N
}

func (n *node) voted(i int) bool {
	return n.Votes[i]
}

// others calls f of each other node, by rising numbers.
func (n *node) others(f func(i int)) {
	for i := range n.N {
		if i != n.Self {
			f(i)
		}
	}
}

// ask asks a node for its vote.
func (n *node) ask(i int) {
	n.send(api.Msg{Kind: AskVote, To: i, Index: len(n.Log), LogTerm: n.term(len(n.Log))})
}

// offer sends a node what it may be wanting.
func (n *node) offer(i int) {
	ahead := n.Next[i] - 1
	n.send(api.Msg{Kind: AskAppend, To: i, Index: ahead, LogTerm: n.term(ahead), Entries: n.behind(ahead), Commit: n.Commit})
}

// behind answers the entries behind number i, as many as a message has.
func (n *node) behind(i int) []api.Entry {
	if i < 0 || i > len(n.Log) {
		return nil
	}
	return copied(n.Log[i:min(i+MaxSend, len(n.Log))])
}

// term answers the term of entry number i; 0, if there is none.
func (n *node) term(i int) int {
	if i < 1 || i > len(n.Log) {
		return 0
	}
	return n.Log[i-1].Term
}

func (n *node) send(m api.Msg) {
	m.From, m.Term = n.Self, n.Term
	n.out = append(n.out, m)
}

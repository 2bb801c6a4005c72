package cluster

import (
	"parley/api"
	"parley/disk"
	"parley/raft"
	"parley/rlog"
	"parley/store"
)

// node is a node on its own disk.
type node struct {
	disk  *disk.Disk
	log   *rlog.Log // nil: it is down
	state api.Raft  // of a node that is down only Self and N
}

// begin answers node i of n, with an empty log.
func begin(i, n, blocks int) (*node, api.Errno) {
	d, e := disk.New(blocks)
	if e != api.OK {
		return nil, e
	}
	if e := store.Format(d); e != api.OK {
		return nil, e
	}
	x := &node{disk: d}
	if x.log, e = open(d); e != api.OK {
		return nil, e
	}
	x.state, e = raft.New(i, n, 3*i) // unlike draws, so that not all ask for votes at once
	return x, e
}

// open answers the log on a disk.
func open(d *disk.Disk) (*rlog.Log, api.Errno) {
	s, e := store.Recover(d)
	if e != api.OK {
		return nil, e
	}
	return rlog.Open(s)
}

func (x *node) up() bool {
	return x.log != nil
}

// fall lets the node go down: nothing is left of it but what its disk has.
func (x *node) fall() {
	x.log, x.state = nil, api.Raft{Self: x.state.Self, N: x.state.N}
}

// keep lets the node have a new state, if its log can keep what must not be lost of that; else it goes down. What the log has already asks for no power.
func (x *node) keep(s api.Raft) bool {
	from := same(x.state.Log, s.Log)
	isOld := s.Term == x.state.Term && s.Vote == x.state.Vote && from == max(len(s.Log), len(x.state.Log))
	if !isOld && x.log.Try(from+1, s.Log[from:], s.Term, s.Vote) != api.OK {
		x.fall()
		return false
	}
	x.state = s
	return true
}

// same answers how many entries at their beginnings two logs share.
func same(a, b []api.Entry) int {
	n := 0
	for n < len(a) && n < len(b) && a[n] == b[n] {
		n++
	}
	return n
}

// crash lets the node's power go out and come back; some of what its disk let wait has landed.
func (x *node) crash(e Event) {
	x.fall()
	x.disk.Crash(e.Keep, e.Tear, e.Sectors)
	log, err := open(x.disk)
	if err != api.OK {
		return
	}
	x.log = log
	x.state.Term, x.state.Vote = log.State()
	x.state.Log = log.Entries()
	x.state = raft.Restart(x.state, e.Draw)
}

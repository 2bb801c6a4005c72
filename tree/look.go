package tree

import (
	"parley/api"
	"parley/page"
)

// giveUp is what a look or a change panics with, and guard recovers: the blocks are no tree (ErrForm), or one of them is wanting (ErrSpace).
type giveUp struct {
	e api.Errno
}

// guard does f, and answers what it gave up with; a panic of the blocks themselves is none of its business, and goes on.
func guard(f func()) (e api.Errno) {
	defer func() {
		switch p := recover().(type) {
		case nil:
		case giveUp:
			e = p.e
		default:
			panic(p)
		}
	}()
	f()
	return api.OK
}

// mostReads is more than a call reads of any tree: each block that a branch may name once, and the root. Blocks that lead round in a circle end there.
const mostReads = api.MaxBlocks + 1

// look reads the nodes of a tree.
type look struct {
	b     Blocks
	reads int
}

func newLook(b Blocks) *look {
	if b == nil { // there is no block at all
		b = NewMemory(0)
	}
	return &look{b: b}
}

// node reads the node in a block.
func (l *look) node(n int) api.Node {
	l.reads++
	if l.reads > mostReads {
		panic(giveUp{api.ErrForm})
	}
	x, e := page.Decode(l.b.Read(n))
	if e != api.OK {
		panic(giveUp{api.ErrForm})
	}
	return x
}

// leaf answers the leaf where k has its place.
func (l *look) leaf(n int, k string) api.Node {
	for {
		x := l.node(n)
		if x.Leaf {
			return x
		}
		n = x.Kids[way(x, k)]
	}
}

// way answers which of a branch's Kids k lies below.
func way(x api.Node, k string) int {
	i, found := page.Find(x, k)
	if found { // the key itself lies behind the one that parts
		return i + 1
	}
	return i
}

// search gathers pairs in their order.
type search struct {
	*look
	lo, hi string
	most   int
	found  []api.Pair
}

// under takes what it looks for from the nodes under a block, and stops when it has enough.
func (s *search) under(n int) {
	x := s.node(n)
	if x.Leaf {
		s.in(x)
		return
	}
	first := way(x, s.lo)
	s.under(x.Kids[first])
	for i, k := range x.Keys[first:] { // all that lies behind k is at least k
		if s.done(k) {
			return
		}
		s.under(x.Kids[first+i+1])
	}
}

func (s *search) in(leaf api.Node) {
	first, _ := page.Find(leaf, s.lo)
	for i, k := range leaf.Keys[first:] {
		if s.done(k) {
			return
		}
		s.found = append(s.found, api.Pair{Key: k, Val: leaf.Vals[first+i]})
	}
}

// done tells whether nothing from k on is wanted.
func (s *search) done(k string) bool {
	return len(s.found) >= s.most || s.hi != "" && k >= s.hi
}

// size is how much stands under a block; depth: so many branches lie on the way from there to each leaf.
type size struct {
	pairs, nodes, depth int
}

// measure goes through all that stands under a block, and gives up where it isn't as it is to be: with keys from lo on and below hi, an empty hi being no bound.
func (l *look) measure(n int, lo, hi string) size {
	x := l.node(n)
	for _, k := range x.Keys {
		if k < lo || hi != "" && k >= hi {
			panic(giveUp{api.ErrForm})
		}
	}
	if x.Leaf {
		return size{pairs: len(x.Keys), nodes: 1}
	}
	sum := size{nodes: 1}
	for i, kid := range x.Kids {
		from, to := lo, hi
		if i > 0 {
			from = x.Keys[i-1]
		}
		if i < len(x.Keys) {
			to = x.Keys[i]
		}
		below := l.measure(kid, from, to)
		if below.pairs == 0 || i > 0 && below.depth+1 != sum.depth {
			panic(giveUp{api.ErrForm})
		}
		sum = size{sum.pairs + below.pairs, sum.nodes + below.nodes, below.depth + 1}
	}
	return sum
}

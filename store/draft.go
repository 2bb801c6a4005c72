package store

import (
	"bytes"
	"maps"
	"slices"

	"parley/alloc"
	"parley/api"
	"parley/disk"
	"parley/journal"
	"parley/tree"
)

const mark = "parley store 1" // a head begins with it; the root's number follows, its lower byte first

// draft is the blocks as a batch would have them: the disk stays as it is, until all of them are committed.
type draft struct {
	d     *disk.Disk
	used  alloc.Map
	root  int
	wrote map[int][]byte
}

// draft answers the blocks as they are; false: there is no store.
func (s *Store) draft() (*draft, bool) {
	if s.d == nil {
		return nil, false
	}
	head, _ := s.d.Read(headAt)
	used, _ := s.d.Read(mapAt)
	t := &draft{d: s.d, wrote: map[int][]byte{}}
	t.root = int(head[len(mark)]) | int(head[len(mark)+1])<<8
	t.used = withoutNodes(s.d.Blocks())
	copy(t.used.Bits, used)
	return t, bytes.Equal(head, t.head()) && bytes.Equal(used, t.usedBlock())
}

// withoutNodes answers the map of a disk on which there is no node yet.
func withoutNodes(blocks int) alloc.Map {
	m, _ := alloc.New(blocks)
	_, m, _ = alloc.Take(m, journalAt+journal.Area(slots))
	return m
}

func (t *draft) head() []byte {
	b := make([]byte, api.Block)
	copy(b, mark)
	b[len(mark)], b[len(mark)+1] = byte(t.root), byte(t.root>>8)
	return b
}

func (t *draft) usedBlock() []byte {
	b := make([]byte, api.Block)
	copy(b, t.used.Bits)
	return b
}

// Read answers a block, as it is by now.
func (t *draft) Read(n int) []byte {
	if b, ok := t.wrote[n]; ok {
		return slices.Clone(b)
	}
	b, _ := t.d.Read(n)
	return b
}

// Write puts a block's contents.
func (t *draft) Write(n int, b []byte) {
	t.wrote[n] = slices.Clone(b)
}

// Take answers a block that isn't in use. What stands in it on the disk is nobody's any more.
func (t *draft) Take() (int, bool) {
	l, m, e := alloc.Take(t.used, 1)
	if e != api.OK {
		return 0, false
	}
	t.used = m
	t.wrote[l[0]] = nil
	return l[0], true
}

// Give makes a block free.
func (t *draft) Give(n int) {
	m, e := alloc.Give(t.used, []int{n})
	if e == api.OK {
		t.used = m
		delete(t.wrote, n)
	}
}

// change makes one change of a batch.
func (t *draft) change(p api.Pair) api.Errno {
	e := api.OK
	if p.Gone {
		t.root, _ = tree.Delete(t, t.root, p.Key)
	} else {
		t.root, e = tree.Put(t, t.root, p.Key, p.Val)
	}
	return e
}

// changes answers the blocks that aren't on the disk as they are to be, in their order.
func (t *draft) changes() []api.BlockWrite {
	all := maps.Clone(t.wrote)
	all[headAt] = t.head()
	all[mapAt] = t.usedBlock()
	var l []api.BlockWrite
	for _, n := range slices.Sorted(maps.Keys(all)) {
		if was, _ := t.d.Read(n); !bytes.Equal(was, all[n]) {
			l = append(l, api.BlockWrite{Block: n, Data: all[n]})
		}
	}
	return l
}

// witness is a draft that remembers which blocks were read.
type witness struct {
	*draft
	read []int
}

// Read answers a block, and remembers it.
func (w *witness) Read(n int) []byte {
	w.read = append(w.read, n)
	return w.draft.Read(n)
}

// sound tells whether the tree is one, and just its nodes are in use: with them given back, none but those that never were nodes is left.
func (t *draft) sound() bool {
	w := &witness{draft: t}
	if _, _, ok := tree.Check(w, t.root); !ok {
		return false
	}
	rest, e := alloc.Give(t.used, w.read)
	return e == api.OK && bytes.Equal(rest.Bits, withoutNodes(rest.Total).Bits)
}

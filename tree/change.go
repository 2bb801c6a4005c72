package tree

import (
	"maps"
	"slices"

	"parley/api"
	"parley/page"
)

// How many keys a branch has, the root alone perhaps fewer. The most of them fit into a block whatever their lengths are: so another key can always stand in the place of one, and Delete never wants a block.
const (
	mostKeys  = 10
	leastKeys = mostKeys / 2
)

// change is what is to be done to a tree; the blocks have nothing of it but those that were taken, until all of it is known to be possible.
type change struct {
	*look
	wrote map[int]api.Node // the nodes, by their blocks
	taken []int
	given []int
}

// alter lets f make a change, and then writes it. If f gives up, the blocks are as they were.
func alter(b Blocks, f func(c *change)) api.Errno {
	c := &change{look: newLook(b), wrote: map[int]api.Node{}}
	e := guard(func() {
		f(c)
		c.finish()
	})
	if e != api.OK {
		c.undo()
	}
	return e
}

// finish writes what there is, in the order of the blocks, for that of the map is nobody's.
func (c *change) finish() {
	places := slices.Sorted(maps.Keys(c.wrote))
	var blocks [][]byte
	for _, n := range places {
		b, e := page.Encode(c.wrote[n])
		if e != api.OK { // what was read was no tree
			panic(giveUp{api.ErrForm})
		}
		blocks = append(blocks, b)
	}
	for i, n := range places {
		c.b.Write(n, blocks[i])
	}
	for _, n := range c.given {
		c.b.Give(n)
	}
}

func (c *change) undo() {
	for _, n := range c.taken {
		c.b.Give(n)
	}
}

// take answers a block for a node. One that no branch can name is as good as none.
func (c *change) take() int {
	n, ok := c.b.Take()
	if !ok {
		panic(giveUp{api.ErrSpace})
	}
	c.taken = append(c.taken, n)
	if n < 0 || n >= api.MaxBlocks {
		panic(giveUp{api.ErrSpace})
	}
	return n
}

func (c *change) give(n int) {
	delete(c.wrote, n)
	c.given = append(c.given, n)
}

// node answers the node in a block, as it is by now.
func (c *change) node(n int) api.Node {
	if x, ok := c.wrote[n]; ok {
		return x
	}
	return c.look.node(n)
}

// putTop puts a pair under the root, and answers the root then: where it was split, one above both halves.
func (c *change) putTop(root int, k, v string) int {
	key, kid, split := c.put(root, k, v)
	if !split {
		return root
	}
	top := c.take()
	c.wrote[top] = api.Node{Keys: []string{key}, Kids: []int{root, kid}}
	return top
}

// put puts a pair under block n. If the node there is split, the second half's block and the key ahead of it are answered.
func (c *change) put(n int, k, v string) (string, int, bool) {
	x := c.node(n)
	if x.Leaf {
		return c.place(n, page.Set(x, k, v))
	}
	i := way(x, k)
	key, kid, split := c.put(x.Kids[i], k, v)
	if !split {
		return "", 0, false
	}
	x.Keys = slices.Insert(x.Keys, i, key)
	x.Kids = slices.Insert(x.Kids, i+1, kid)
	return c.place(n, x)
}

// place puts a node into block n, or, if it is too great, its first half, and the second one into another block.
func (c *change) place(n int, x api.Node) (string, int, bool) {
	if fits(x) {
		c.wrote[n] = x
		return "", 0, false
	}
	first, key, second := halve(x)
	kid := c.take()
	c.wrote[n], c.wrote[kid] = first, second
	return key, kid, true
}

// unsetTop takes a key away under the root, and answers the root then: where it has one Kid left, that one.
func (c *change) unsetTop(root int, k string) (int, bool) {
	if !c.unset(root, k) {
		return root, false
	}
	x := c.node(root)
	if x.Leaf || len(x.Keys) > 0 {
		return root, true
	}
	c.give(root)
	return x.Kids[0], true
}

// unset takes a key away under block n; the node there may be too small then.
func (c *change) unset(n int, k string) bool {
	x := c.node(n)
	if x.Leaf {
		y, ok := page.Unset(x, k)
		if ok {
			c.wrote[n] = y
		}
		return ok
	}
	i := way(x, k)
	if !c.unset(x.Kids[i], k) {
		return false
	}
	c.mend(n, x, i)
	return true
}

// mend joins Kid i of the branch x in block n with the one ahead of it or behind it, if it is small and both fit into one block. A branch that nowhere fits gets keys of the one beside it; a leaf can wait, for one without keys would fit.
func (c *change) mend(n int, x api.Node, i int) {
	kid := c.node(x.Kids[i])
	if !isSmall(kid) {
		return
	}
	ahead, behind := i-1, i // the keys that part it from the others
	if ahead >= 0 && c.join(n, x, ahead) || behind < len(x.Keys) && c.join(n, x, behind) {
		return
	}
	if !kid.Leaf {
		c.share(n, x, max(ahead, 0))
	}
}

// join makes one node of the two beside key number at of the branch x in block n; false: it would be too great, and nothing is done.
func (c *change) join(n int, x api.Node, at int) bool {
	both := c.both(x, at)
	if !fits(both) {
		return false
	}
	c.wrote[x.Kids[at]] = both
	c.give(x.Kids[at+1])
	c.wrote[n] = api.Node{
		Keys: slices.Concat(x.Keys[:at], x.Keys[at+1:]),
		Kids: slices.Concat(x.Kids[:at+1], x.Kids[at+2:]),
	}
	return true
}

// share parts the keys of the two branches beside key number at of x anew, half and half.
func (c *change) share(n int, x api.Node, at int) {
	first, key, second := halve(c.both(x, at))
	c.wrote[x.Kids[at]], c.wrote[x.Kids[at+1]] = first, second
	keys := slices.Clone(x.Keys)
	keys[at] = key
	c.wrote[n] = api.Node{Keys: keys, Kids: x.Kids}
}

// both answers the two nodes beside key number at of the branch x as one.
func (c *change) both(x api.Node, at int) api.Node {
	first, second := c.node(x.Kids[at]), c.node(x.Kids[at+1])
	if first.Leaf != second.Leaf { // no tree has them beside one another
		panic(giveUp{api.ErrForm})
	}
	if first.Leaf {
		return api.Node{Leaf: true, Keys: slices.Concat(first.Keys, second.Keys), Vals: slices.Concat(first.Vals, second.Vals)}
	}
	return api.Node{Keys: slices.Concat(first.Keys, x.Keys[at:at+1], second.Keys), Kids: slices.Concat(first.Kids, second.Kids)}
}

func fits(x api.Node) bool {
	if x.Leaf {
		return page.Size(x) <= api.Block
	}
	return len(x.Keys) <= mostKeys
}

func isSmall(x api.Node) bool {
	if x.Leaf {
		return page.Size(x) < api.Block/2
	}
	return len(x.Keys) < leastKeys
}

// halve answers a node that is too great as two, and the key between them: a leaf by its bytes, a branch by its keys, so that both have enough of them.
func halve(x api.Node) (api.Node, string, api.Node) {
	if x.Leaf {
		return page.Halve(x)
	}
	at := len(x.Keys) / 2
	first := api.Node{Keys: slices.Clone(x.Keys[:at]), Kids: slices.Clone(x.Kids[:at+1])}
	second := api.Node{Keys: slices.Clone(x.Keys[at+1:]), Kids: slices.Clone(x.Kids[at+1:])}
	return first, x.Keys[at], second
}

package tree

import (
	"bytes"
	"fmt"
	"maps"
	"math"
	"math/rand"
	"slices"
	"strings"
	"testing"

	"parley/api"
	"parley/disk"
	"parley/page"
)

func check(t *testing.T, what string, got, want any) {
	t.Helper()
	if g, w := fmt.Sprint(got), fmt.Sprint(want); g != w {
		t.Errorf("%s: %.300s, not %.300s", what, g, w)
	}
}

func put(k, v string) api.Pair {
	return api.Pair{Key: k, Val: v}
}

func gone(k string) api.Pair {
	return api.Pair{Key: k, Gone: true}
}

// list is what a tree is held against: the pairs in a map.
type list map[string]string

// do answers the errors that there may be; a list has room for all.
func (l list) do(op api.Pair) api.Errno {
	_, there := l[op.Key]
	switch {
	case op.Gone && !there:
		return api.ErrAbsent
	case op.Gone:
		delete(l, op.Key)
	case op.Key == "" || len(op.Key) > 20 || len(op.Val) > 100:
		return api.ErrForm
	default:
		l[op.Key] = op.Val
	}
	return api.OK
}

func (l list) pairs(lo, hi string, most int) []api.Pair {
	var p []api.Pair
	for _, k := range slices.Sorted(maps.Keys(l)) {
		p = append(p, put(k, l[k]))
	}
	return within(p, lo, hi, most)
}

// within answers those of rising pairs that a Range is to find.
func within(pairs []api.Pair, lo, hi string, most int) []api.Pair {
	var p []api.Pair
	for _, x := range pairs {
		if len(p) < most && x.Key >= lo && (hi == "" || x.Key < hi) {
			p = append(p, x)
		}
	}
	return p
}

// looked is what stands under a block, found out in another way than the tree's own: the leaves in their order, with the bounds that the branches' keys set to each.
type looked struct {
	at     map[int]int // how often a block is a node
	pairs  []api.Pair
	depths map[int]int
	thin   []int // branches with fewer keys than those below the root are to have, or more
	wrong  string
}

func (l *looked) under(b Blocks, n, depth int, root bool, lo, hi string) {
	l.at[n]++
	x, e := page.Decode(b.Read(n))
	if e != api.OK || l.at[n] > 1 || !root && len(x.Keys) == 0 {
		l.wrong = fmt.Sprintf("block %d: error %d, %d times, %d keys", n, e, l.at[n], len(x.Keys))
		return
	}
	if x.Leaf {
		l.depths[depth]++
		for i, k := range x.Keys {
			if k < lo || hi != "" && k >= hi {
				l.wrong = fmt.Sprintf("block %d: %q isn't between %q and %q", n, k, lo, hi)
			}
			l.pairs = append(l.pairs, put(k, x.Vals[i]))
		}
		return
	}
	if !root && len(x.Keys) < leastKeys || len(x.Keys) > mostKeys {
		l.thin = append(l.thin, n)
	}
	from := append([]string{lo}, x.Keys...)
	to := append(slices.Clone(x.Keys), hi)
	for i, kid := range x.Kids {
		l.under(b, kid, depth+1, false, max(lo, from[i]), to[i])
	}
}

// holds tells of a tree in memory that it is sound, has these pairs, and that just its nodes are in use.
func holds(t *testing.T, what string, m *Memory, root int, want list) {
	t.Helper()
	l := &looked{at: map[int]int{}, depths: map[int]int{}}
	l.under(m, root, 0, true, "", "")
	if l.wrong != "" || len(l.depths) != 1 {
		t.Fatalf("%s: %s; leaves by depth: %v", what, l.wrong, l.depths)
	}
	if len(l.thin) > 0 { // no promise says so, but the journal of the store has slots for trees that aren't deep
		t.Fatalf("%s: branches %v have too few keys, or too many", what, l.thin)
	}
	if !slices.Equal(l.pairs, want.pairs("", "", len(want))) {
		t.Fatalf("%s: pairs %v, not %v", what, l.pairs, want)
	}
	if !slices.Equal(slices.Sorted(maps.Keys(l.at)), slices.Sorted(maps.Keys(m.At))) {
		t.Fatalf("%s: nodes %v; in use %v", what, l.at, slices.Sorted(maps.Keys(m.At)))
	}
	if len(l.at) > 2*len(want)+1 {
		t.Fatalf("%s: %d nodes of %d pairs", what, len(l.at), len(want))
	}
	if pairs, nodes, ok := Check(m, root); pairs != len(want) || nodes != len(l.at) || !ok {
		t.Fatalf("%s: Check %d, %d, %v; not %d, %d", what, pairs, nodes, ok, len(want), len(l.at))
	}
}

// played plays the changes, and holds what is answered against a list. ErrSpace may be answered only where the words let it: with fewer blocks than two and fewer than twice the keys then.
func played(t *testing.T, room int, ops []api.Pair) (full int) {
	t.Helper()
	errs, pairs, nodes, ok := Play(room, ops)
	if len(errs) != len(ops) || !ok {
		t.Fatalf("room %d, %d changes: %d errors, sound %v", room, len(ops), len(errs), ok)
	}
	l := list{}
	for i, op := range ops {
		was, there := l[op.Key]
		want := l.do(op)
		if errs[i] == api.ErrSpace && want == api.OK && !op.Gone && room < max(2, 2*len(l)) {
			full++
			delete(l, op.Key)
			if there {
				l[op.Key] = was
			}
		} else if errs[i] != want {
			t.Fatalf("room %d, change %d (%v), %d pairs then: %d, not %d", room, i, op, len(l), errs[i], want)
		}
	}
	if !slices.Equal(pairs, l.pairs("", "", len(l))) {
		t.Fatalf("room %d: pairs %v, not %v", room, pairs, l)
	}
	if nodes < 1 || nodes > 2*len(l)+1 || nodes > room {
		t.Fatalf("room %d, %d pairs: %d nodes", room, len(l), nodes)
	}
	return full
}

// shapes of keys and values: how a number becomes a pair. The numbers from 0 to 9999 have each a key of its own.
var shapes = map[string]func(i int) api.Pair{
	"the greatest": func(i int) api.Pair { return put(fmt.Sprintf("%020d", i), strings.Repeat("v", 100)) },
	"the least": func(i int) api.Pair {
		return put(strings.TrimLeft(string([]byte{byte(i / 200), byte(i%200 + 1)}), "\x00"), "")
	},
	"long keys": func(i int) api.Pair { return put(fmt.Sprintf("%020d", i), "") },
	"short and long": func(i int) api.Pair {
		return put(fmt.Sprintf("%04d", i)+strings.Repeat("k", i%2*16), strings.Repeat("w", i%101))
	},
	"of many lengths": func(i int) api.Pair {
		return put(fmt.Sprintf("%04d", i*7919%10000)+strings.Repeat("k", i%17), strings.Repeat("x", i*31%101))
	},
}

// orders: how the numbers below n go.
var orders = map[string]func(n int) []int{
	"rising":  rising,
	"falling": func(n int) []int { l := rising(n); slices.Reverse(l); return l },
	"mixed":   rand.New(rand.NewSource(91)).Perm,
}

func rising(n int) []int {
	l := make([]int, n)
	for i := range l {
		l[i] = i
	}
	return l
}

// each does f with each shape and order, and tells their names.
func each(t *testing.T, f func(t *testing.T, shape func(i int) api.Pair, order func(n int) []int)) {
	for _, s := range slices.Sorted(maps.Keys(shapes)) {
		for _, o := range slices.Sorted(maps.Keys(orders)) {
			t.Run(s+", "+o, func(t *testing.T) { f(t, shapes[s], orders[o]) })
		}
	}
}

// planted is a tree in memory with these pairs.
func planted(t *testing.T, room int, pairs ...api.Pair) (*Memory, int, list) {
	t.Helper()
	m, l := NewMemory(room), list{}
	root, ok := New(m)
	if !ok {
		t.Fatalf("New in %d blocks: false", room)
	}
	for _, p := range pairs {
		var e api.Errno
		if root, e = Put(m, root, p.Key, p.Val); e != api.OK || l.do(p) != api.OK {
			t.Fatalf("Put %v: %d", p, e)
		}
	}
	return m, root, l
}

func of(shape func(i int) api.Pair, numbers []int) []api.Pair {
	var l []api.Pair
	for _, i := range numbers {
		l = append(l, shape(i))
	}
	return l
}

// panicked answers what f panics with.
func panicked(f func()) (p any) {
	defer func() { p = recover() }()
	f()
	return nil
}

func TestP9_1Examples(t *testing.T) {
	errs, pairs, nodes, ok := Play(10, []api.Pair{put("b", "1"), put("a", "2"), put("b", "3")})
	check(t, "b, a, b", fmt.Sprint(errs, pairs, nodes, ok), "[0 0 0] [{a 2 false} {b 3 false}] 1 true")
	errs, pairs, nodes, ok = Play(0, nil)
	check(t, "no room", fmt.Sprint(errs, pairs, nodes, ok), "[] [] 0 false")
	errs, pairs, nodes, ok = Play(1, []api.Pair{gone("a")})
	check(t, "a goes", fmt.Sprint(errs, pairs, nodes, ok), "[6] [] 1 true")
}

// TestP9_1ShortRows plays each row of four changes of a few, with few blocks.
func TestP9_1ShortRows(t *testing.T) {
	long := strings.Repeat("v", 100)
	some := []api.Pair{put("a", long), put("b", long), put("c", long), put("c", ""), put("bb", "1"), gone("a"), gone("b"), gone("c"), gone(""), put("", "")}
	var row func(l []api.Pair)
	row = func(l []api.Pair) {
		if len(l) == 4 {
			for room := 1; room <= 4; room++ {
				played(t, room, l)
			}
			return
		}
		for _, op := range some {
			row(append(slices.Clone(l), op))
		}
	}
	row(nil)
}

func TestP9_1Rows(t *testing.T) {
	each(t, func(t *testing.T, shape func(i int) api.Pair, order func(n int) []int) {
		l := order(500)
		ops := of(shape, l)
		for _, i := range l[:400] { // other values, greater ones and lesser ones
			ops = append(ops, put(shape(i).Key, shape(i+50).Val))
		}
		for _, i := range order(500) {
			ops = append(ops, gone(shape(i).Key), gone(shape(i+500).Key))
			if i%3 == 0 {
				ops = append(ops, shape(i+1000))
			}
		}
		for _, room := range []int{2000, 1000} {
			if full := played(t, room, ops); full > 0 {
				t.Errorf("room %d: ErrSpace %d times", room, full)
			}
		}
		for _, room := range []int{1, 2, 3, 10, 50} {
			played(t, room, ops)
		}
	})
}

// TestP9_1Space: with two blocks and twice as many as there are keys there is always room; where all that can be had are taken, nothing changes, and keys may still go.
func TestP9_1Space(t *testing.T) {
	each(t, func(t *testing.T, shape func(i int) api.Pair, order func(n int) []int) {
		for n := 1; n < 120; n++ {
			if full := played(t, max(2, 2*n), of(shape, order(n))); full > 0 {
				t.Errorf("%d pairs: ErrSpace %d times", n, full)
			}
		}
		for _, room := range []int{1, 2, 5, 30} {
			m, root, l := planted(t, room)
			full := 0
			for _, i := range order(2000) {
				p := shape(i)
				at, e := Put(m, root, p.Key, p.Val)
				if e == api.ErrSpace && at == root {
					full++
				} else if e != l.do(p) {
					t.Fatalf("room %d, %d pairs: Put %v: %d, root %d", room, len(l), p, e, at)
				}
				if root = at; full == 1 {
					holds(t, "full", m, root, l)
				}
			}
			if full == 0 {
				t.Errorf("room %d: never full with %d pairs", room, len(l))
			}
			holds(t, "at last", m, root, l)
			for k := range maps.Clone(l) {
				at, ok := Delete(m, root, k)
				if l.do(gone(k)) != api.OK || !ok {
					t.Fatalf("room %d: Delete %q: %v", room, k, ok)
				}
				root = at
			}
			holds(t, "emptied", m, root, list{})
		}
	})
}

func TestP9_1WrongInputs(t *testing.T) {
	for _, p := range []api.Pair{put("", ""), put("", "v"), put(strings.Repeat("k", 21), ""), put(strings.Repeat("k", 400), "v"), put("k", strings.Repeat("v", 101)), put("a", strings.Repeat("v", 400)), put("", strings.Repeat("v", 100)), put("", strings.Repeat("v", 101))} {
		m, root, l := planted(t, 9, put("a", "1"), put("k", "2"))
		at, e := Put(m, root, p.Key, p.Val)
		check(t, fmt.Sprintf("Put %d, %d bytes", len(p.Key), len(p.Val)), []any{at, e}, []any{root, api.ErrForm})
		holds(t, "behind it", m, root, l)
		full, top, l := planted(t, 1, shapes["the greatest"](1), shapes["the greatest"](2))
		at, e = Put(full, top, p.Key, p.Val) // no room either; but what is wrong with the pair is named first
		check(t, fmt.Sprintf("Put %d, %d bytes, full", len(p.Key), len(p.Val)), []any{at, e}, []any{top, api.ErrForm})
		holds(t, "behind it, full", full, top, l)
		errs, _, _, ok := Play(1, []api.Pair{p, {Key: p.Key + "k", Val: p.Val, Gone: true}}) // the value of what goes says nothing
		check(t, "Play", []any{errs, ok}, []any{[]api.Errno{api.ErrForm, api.ErrAbsent}, true})
	}
	played(t, 9, []api.Pair{put(strings.Repeat("k", 20), strings.Repeat("v", 100)), put("\x00", ""), put("\xff", "\x00"), put("a\x00", ""), put("a", ""), gone(strings.Repeat("k", 20)), gone(strings.Repeat("k", 21)), gone("\x00\x00"), gone("\x00")})
	for _, room := range []int{0, -1, math.MinInt} {
		errs, pairs, nodes, ok := Play(room, []api.Pair{put("a", "1")})
		check(t, fmt.Sprint("room ", room), fmt.Sprint(errs, pairs, nodes, ok), "[] [] 0 false")
		_, ok = New(NewMemory(room))
		check(t, fmt.Sprint("New, room ", room), ok, false)
	}
	errs, pairs, nodes, ok := Play(math.MaxInt, []api.Pair{put("a", "1")})
	check(t, "a great room", fmt.Sprint(errs, pairs, nodes, ok), "[0] [{a 1 false}] 1 true")
	errs, pairs, nodes, ok = Play(1, nil)
	check(t, "no changes", fmt.Sprint(errs, pairs, nodes, ok), "[] [] 1 true")
}

func TestP9_1Absent(t *testing.T) {
	each(t, func(t *testing.T, shape func(i int) api.Pair, order func(n int) []int) {
		m, root, l := planted(t, 500, of(shape, order(200))...)
		was := maps.Clone(m.At)
		for i := 200; i < 400; i++ {
			at, ok := Delete(m, root, shape(i).Key)
			if at != root || ok {
				t.Fatalf("Delete %v: %d, %v", shape(i), at, ok)
			}
		}
		check(t, "blocks", maps.EqualFunc(m.At, was, bytes.Equal), true)
		holds(t, "behind all", m, root, l)
	})
}

// TestP9_2Always looks at the tree behind each change.
func TestP9_2Always(t *testing.T) {
	each(t, func(t *testing.T, shape func(i int) api.Pair, order func(n int) []int) {
		const n = 260
		m, root, l := planted(t, 2*n)
		holds(t, "new", m, root, l)
		step := func(op api.Pair) {
			var e api.Errno
			root, e = do(m, root, op)
			if want := l.do(op); e != want {
				t.Fatalf("%v: %d, not %d", op, e, want)
			}
			holds(t, fmt.Sprint(op), m, root, l)
		}
		for _, i := range order(n) {
			step(shape(i))
		}
		for _, i := range order(n) {
			step(put(shape(i).Key, strings.Repeat("z", i*53%101)))
		}
		for _, i := range order(n) {
			step(gone(shape(i).Key))
			if i%4 == 0 {
				step(shape(i + n))
			}
		}
		for _, k := range slices.Sorted(maps.Keys(l)) {
			step(gone(k))
		}
		check(t, "nodes of the empty tree", m.Used(), 1)
	})
}

// TestP9_2Mixed lets pairs of all shapes come and go.
func TestP9_2Mixed(t *testing.T) {
	names := slices.Sorted(maps.Keys(shapes))
	for seed := range 20 {
		r := rand.New(rand.NewSource(int64(seed)))
		m, root, l := planted(t, 1000)
		for i := range 1500 {
			op := shapes[names[r.Intn(len(names))]](r.Intn(300))
			grows := i/300%2 == 0
			if op.Gone = r.Intn(10) < 3 == grows; op.Gone && len(l) > 0 && r.Intn(4) > 0 {
				op.Key = slices.Sorted(maps.Keys(l))[r.Intn(len(l))]
			}
			if r.Intn(4) == 0 {
				op.Val = strings.Repeat("y", r.Intn(101))
			}
			var e api.Errno
			root, e = do(m, root, op)
			if want := l.do(op); e != want {
				t.Fatalf("seed %d, change %d, %v: %d, not %d", seed, i, op, e, want)
			}
			if i%10 == 0 {
				holds(t, fmt.Sprintf("seed %d, change %d", seed, i), m, root, l)
			}
		}
		holds(t, fmt.Sprint("seed ", seed), m, root, l)
	}
}

// TestP9_2Great fills all the blocks that a branch can name.
func TestP9_2Great(t *testing.T) {
	for name, order := range orders {
		m, root, l := planted(t, 2048, of(shapes["the greatest"], order(1023))...)
		holds(t, name, m, root, l)
		for _, i := range order(1023) {
			at, ok := Delete(m, root, shapes["the greatest"](i).Key)
			if !ok {
				t.Fatalf("%s: Delete of number %d: false", name, i)
			}
			root = at
		}
		holds(t, name, m, root, list{})
	}
}

// block is a node's block, or, where there is none such, no block at all.
func block(n api.Node) []byte {
	b, _ := page.Encode(n)
	return b
}

func leaf(keys ...string) []byte {
	return block(api.Node{Leaf: true, Keys: keys, Vals: make([]string, len(keys))})
}

func branch(keys string, kids ...int) []byte {
	return block(api.Node{Keys: strings.Split(keys, " "), Kids: kids})
}

func TestP9_2Check(t *testing.T) {
	deep := map[int][]byte{}
	for i := range 11 { // each branch leads to the next one, and to a leaf
		deep[i] = branch(fmt.Sprintf("k%02d", i), 20+i, i+1)
		deep[20+i] = leaf(fmt.Sprintf("j%02d", i))
	}
	deep[11] = leaf("z")
	for _, c := range []struct {
		what         string
		at           map[int][]byte
		root         int
		pairs, nodes int
		ok           bool
	}{
		{"the empty leaf", map[int][]byte{4: leaf()}, 4, 0, 1, true},
		{"a leaf", map[int][]byte{0: leaf("a", "b")}, 0, 2, 1, true},
		{"a root of a great number", map[int][]byte{9999: leaf("a")}, 9999, 1, 1, true},
		{"a root below 0", map[int][]byte{-9: leaf("a")}, -9, 1, 1, true},
		{"two leaves", map[int][]byte{0: branch("b", 1, 2), 1: leaf("a"), 2: leaf("b", "c")}, 0, 3, 3, true},
		{"a key between them", map[int][]byte{0: branch("b", 1, 2), 1: leaf("a", "a\xff"), 2: leaf("c")}, 0, 3, 3, true},
		{"others in use", map[int][]byte{0: branch("b", 1, 2), 1: leaf("a"), 2: leaf("b"), 3: leaf("x"), 4: {1}}, 0, 2, 3, true},
		{"two levels of branches", map[int][]byte{0: branch("m", 1, 2), 1: branch("c", 3, 4), 2: branch("p t", 5, 6, 7), 3: leaf("a"), 4: leaf("c"), 5: leaf("m"), 6: leaf("s"), 7: leaf("t", "z")}, 0, 6, 8, true},
		{"nothing", nil, 0, 0, 0, false},
		{"no node", map[int][]byte{0: make([]byte, 256)}, 0, 0, 0, false},
		{"a short block", map[int][]byte{0: leaf("a")[:255]}, 0, 0, 0, false},
		{"a taken block", map[int][]byte{0: nil}, 0, 0, 0, false},
		{"a Kid wanting", map[int][]byte{0: branch("b", 1, 2), 1: leaf("a")}, 0, 0, 0, false},
		{"a Kid without keys", map[int][]byte{0: branch("b", 1, 2), 1: leaf("a"), 2: leaf()}, 0, 0, 0, false},
		{"the first Kid without keys", map[int][]byte{0: branch("b", 1, 2), 1: leaf(), 2: leaf("b")}, 0, 0, 0, false},
		{"a key too great", map[int][]byte{0: branch("b", 1, 2), 1: leaf("a", "b"), 2: leaf("c")}, 0, 0, 0, false},
		{"a key too small", map[int][]byte{0: branch("b", 1, 2), 1: leaf("a"), 2: leaf("aa", "c")}, 0, 0, 0, false},
		{"the middle's key too great", map[int][]byte{0: branch("b d", 1, 2, 3), 1: leaf("a"), 2: leaf("b", "d"), 3: leaf("e")}, 0, 0, 0, false},
		{"against a bound further up", map[int][]byte{0: branch("m", 1, 2), 1: branch("c", 3, 4), 2: branch("t", 5, 6), 3: leaf("a"), 4: leaf("c", "m"), 5: leaf("n"), 6: leaf("u")}, 0, 0, 0, false},
		{"against a bound further up, below", map[int][]byte{0: branch("m", 1, 2), 1: branch("c", 3, 4), 2: branch("t", 5, 6), 3: leaf("a"), 4: leaf("c"), 5: leaf("l"), 6: leaf("u")}, 0, 0, 0, false},
		{"a branch's key out of its bounds", map[int][]byte{0: branch("m", 1, 2), 1: branch("x", 3, 4), 2: branch("t", 5, 6), 3: leaf("a"), 4: leaf("l"), 5: leaf("n"), 6: leaf("u")}, 0, 0, 0, false},
		{"not equally deep", map[int][]byte{0: branch("m", 1, 2), 1: branch("c", 3, 4), 2: leaf("n"), 3: leaf("a"), 4: leaf("d")}, 0, 0, 0, false},
		{"not equally deep, the other way", map[int][]byte{0: branch("m", 1, 2), 1: leaf("a"), 2: branch("t", 3, 4), 3: leaf("n"), 4: leaf("u")}, 0, 0, 0, false},
		{"ever deeper", deep, 0, 0, 0, false},
		{"a Kid twice", map[int][]byte{0: branch("b", 1, 1), 1: leaf("a")}, 0, 0, 0, false},
		{"a Kid twice, without keys", map[int][]byte{0: branch("b", 1, 1), 1: leaf()}, 0, 0, 0, false},
		{"itself", map[int][]byte{0: branch("b", 0, 1), 1: leaf("c")}, 0, 0, 0, false},
		{"itself, behind", map[int][]byte{0: branch("b", 1, 0), 1: leaf("a")}, 0, 0, 0, false},
		{"in a circle", map[int][]byte{0: branch("b", 2, 1), 1: branch("c", 3, 0), 2: leaf("a"), 3: leaf("b")}, 0, 0, 0, false},
	} {
		pairs, nodes, ok := Check(&Memory{Room: 10, At: c.at}, c.root)
		check(t, c.what, []any{pairs, nodes, ok}, []any{c.pairs, c.nodes, c.ok})
	}
}

func TestP9_3(t *testing.T) {
	each(t, func(t *testing.T, shape func(i int) api.Pair, order func(n int) []int) {
		for _, n := range []int{0, 1, 3, 25, 200} {
			m, root, l := planted(t, 700, of(shape, order(n))...)
			for _, i := range order(n / 3) { // and some go again
				root, _ = Delete(m, root, shape(i).Key)
				l.do(gone(shape(i).Key))
			}
			all := l.pairs("", "", n)
			bounds := []string{"", "\x00", "5", "\xff", strings.Repeat("\xff", 30)}
			for _, i := range order(n) {
				k := shape(i).Key
				v, ok := Get(m, root, k)
				want, there := l[k]
				check(t, "Get "+k, []any{v, ok}, []any{want, there})
				_, ok = Get(m, root, k+"\x00")
				check(t, "Get of more", ok, false)
				if i%37 == 0 {
					bounds = append(bounds, k, k+"\x00", k[:len(k)-1])
				}
			}
			for _, lo := range bounds {
				for _, hi := range bounds {
					for _, most := range []int{math.MinInt, 0, 1, 30, math.MaxInt} {
						got, want := Range(m, root, lo, hi, most), within(all, lo, hi, most)
						if !slices.Equal(got, want) {
							t.Fatalf("%d pairs, from %q below %q, %d: %v, not %v", n, lo, hi, most, got, want)
						}
					}
				}
			}
			for _, k := range []string{"", "none", strings.Repeat("k", 20), strings.Repeat("k", 21), "\xff\xff"} {
				v, ok := Get(m, root, k)
				check(t, "Get "+k, []any{v, ok}, []any{"", false})
			}
		}
	})
}

func TestP9_3Examples(t *testing.T) {
	m, root, _ := planted(t, 1, put("c", "3"), put("a", "1"), put("b", "2"))
	check(t, "from b below c", Range(m, root, "b", "c", 9), []api.Pair{put("b", "2")})
	check(t, "from b", Range(m, root, "b", "", 9), []api.Pair{put("b", "2"), put("c", "3")})
	check(t, "from b, one", Range(m, root, "b", "", 1), []api.Pair{put("b", "2")})
	check(t, "from c below b", len(Range(m, root, "c", "b", 9)), 0)
	check(t, "none", len(Range(m, root, "", "", 0)), 0)
}

func TestP9_4(t *testing.T) {
	ops := []api.Pair{put("b", "1"), gone("x"), put("a", "2")}
	was := slices.Clone(ops)
	errs, pairs, _, _ := Play(5, ops)
	check(t, "what was handed in", ops, was)
	errs[0], pairs[0].Key = 7, "z"
	again, _, _, _ := Play(5, ops)
	check(t, "another answer", again, []api.Errno{0, 6, 0})

	m, root, l := planted(t, 100, of(shapes["of many lengths"], rising(60))...)
	first, second := Range(m, root, "", "", 99), Range(m, root, "", "", 99)
	first[0] = put("z", "z")
	check(t, "a second Range", slices.Equal(second, l.pairs("", "", 99)), true)
	for n := range m.At {
		clear(m.Read(n))
	}
	holds(t, "behind what was read was changed", m, root, l)
	b := bytes.Repeat([]byte{1}, 256)
	n, _ := m.Take()
	m.Write(n, b)
	clear(b)
	check(t, "what was written", m.Read(n)[0], 1)
}

// TestP9_4Handed: blocks that keep what they are handed, and change it as they like, have nothing that anybody else uses.
func TestP9_4Handed(t *testing.T) {
	m, root, l := planted(t, 100)
	for _, p := range of(shapes["short and long"], rising(80)) {
		root, _ = Put(&careless{Memory: m}, root, p.Key, p.Val)
		l.do(p)
	}
	holds(t, "at last", m, root, l)
}

// careless changes what it was handed, and what it answered.
type careless struct {
	*Memory
	spoilt [][]byte
}

func (c *careless) Write(n int, b []byte) {
	c.Memory.Write(n, b)
	b = b[:cap(b)]
	clear(b)
	for _, s := range c.spoilt {
		clear(s)
	}
}

func (c *careless) Read(n int) []byte {
	b := c.Memory.Read(n)
	c.spoilt = append(c.spoilt, b)
	return b
}

func TestMemory(t *testing.T) {
	m := NewMemory(3)
	check(t, "Room, Used", []int{m.Room, m.Used()}, []int{3, 0})
	take := func(want int, ok bool) {
		t.Helper()
		n, got := m.Take()
		check(t, "Take", []any{n, got}, []any{want, ok})
	}
	take(0, true)
	take(1, true)
	take(2, true)
	take(0, false)
	check(t, "Used", m.Used(), 3)
	check(t, "not written", len(m.Read(1)), 0)
	m.Write(1, []byte("abc"))
	m.Write(1, []byte("de"))
	check(t, "written", string(m.Read(1)), "de")
	m.Give(1)
	check(t, "Used", m.Used(), 2)
	check(t, "given", len(m.Read(1)), 0)
	m.Give(1)
	take(1, true)
	check(t, "taken anew", len(m.Read(1)), 0)
	take(0, false)
	for _, n := range []int{-1, 3, math.MaxInt, math.MinInt} {
		m.Write(n, []byte("x"))
		check(t, fmt.Sprint("block ", n), []int{len(m.Read(n)), m.Used()}, []int{0, 3})
		m.Give(n)
		check(t, fmt.Sprint("block ", n, " given"), m.Used(), 3)
	}
	m = &Memory{Room: 2} // written down without a map
	check(t, "Used", m.Used(), 0)
	check(t, "Read", len(m.Read(0)), 0)
	m.Give(0)
	take(0, true)
	m = &Memory{Room: 2}
	m.Write(1, []byte("x"))
	check(t, "written", string(m.Read(1)), "x")
	m = &Memory{Room: 2, At: map[int][]byte{0: {1}, 7: {2}}} // what is in use is At's keys
	take(1, true)
	take(0, false)
	check(t, "Used", m.Used(), 3)
}

// counted is blocks that note what is done with them; Take's numbers go up by offset.
type counted struct {
	*Memory
	offset int
	calls  []string
}

func (c *counted) note(l ...any) {
	c.calls = append(c.calls, fmt.Sprint(l...))
}

func (c *counted) Read(n int) []byte {
	return c.Memory.Read(n - c.offset)
}

func (c *counted) Write(n int, b []byte) {
	c.note("write ", n)
	c.Memory.Write(n-c.offset, b)
}

func (c *counted) Take() (int, bool) {
	n, ok := c.Memory.Take()
	c.note("take ", n+c.offset, ok)
	return n + c.offset, ok
}

func (c *counted) Give(n int) {
	c.note("give ", n)
	c.Memory.Give(n - c.offset)
}

// TestNumbers: a block whose number no branch can name is as good as none, and is free again.
func TestNumbers(t *testing.T) {
	for _, c := range []struct{ offset, most int }{{0, 10}, {2038, 10}, {2039, 9}, {2047, 1}, {2048, 0}, {1 << 40, 0}, {-1, 0}, {-100, 0}} {
		b := &counted{Memory: NewMemory(10), offset: c.offset}
		root, ok := New(b)
		check(t, fmt.Sprint("New, numbers from ", c.offset), ok, c.most > 0)
		if !ok {
			check(t, "root, in use", []int{root, b.Used()}, []int{0, 0})
			continue
		}
		l := list{}
		for i := range 40 {
			p := shapes["the greatest"](i)
			var e api.Errno
			if root, e = Put(b, root, p.Key, p.Val); e == api.OK {
				l.do(p)
			} else {
				check(t, "Put", e, api.ErrSpace)
			}
		}
		pairs, nodes, ok := Check(b, root)
		check(t, fmt.Sprint("Check, numbers from ", c.offset), []any{pairs, nodes, ok}, []any{len(l), b.Used(), true})
		if nodes > c.most || nodes < c.most/2 {
			t.Errorf("numbers from %d: %d nodes of %d", c.offset, nodes, c.most)
		}
	}
}

// TestSameCalls: the same change of the same tree does the same with the blocks, in the same order; and no more than it needs.
func TestSameCalls(t *testing.T) {
	var first []string
	for range 5 {
		b := &counted{Memory: NewMemory(300)}
		root, _ := New(b)
		for _, i := range orders["falling"](100) {
			p := shapes["of many lengths"](i)
			root, _ = Put(b, root, p.Key, p.Val)
		}
		for i := range 100 {
			root, _ = Delete(b, root, shapes["of many lengths"](i).Key)
		}
		if first == nil {
			first = b.calls
		}
		check(t, "calls", b.calls, first)
	}
}

// TestNoTree: on blocks that are no tree each call ends, and nothing changes.
func TestNoTree(t *testing.T) {
	circle := map[int][]byte{0: branch("b d f h", 0, 1, 0, 1, 0), 1: branch("a c e g", 1, 0, 1, 0, 1)}
	wide := map[int][]byte{}
	for i := range 2048 {
		wide[i] = branch("b d f h j l n p", i+1, i+2, i+1, i+3, i+1, i+5, i+1, i+2, i+1)
	}
	var of50 []string
	for i := range 50 {
		of50 = append(of50, fmt.Sprint("e", i+10))
	}
	for what, at := range map[string]map[int][]byte{
		"nothing":                {},
		"noughts":                {0: make([]byte, 256)},
		"no Kids":                {0: branch("b", 1, 2)},
		"circles":                circle,
		"branches alone":         wide,
		"a leaf, nothing":        {0: branch("b", 1, 2), 1: leaf("a")},
		"leaf and branch":        {0: branch("b", 1, 2), 1: leaf("a"), 2: branch("c", 3, 4), 3: leaf("b"), 4: leaf("c")},
		"keys too great":         {0: branch("b", 1, 2), 1: leaf("a", "d", "e"), 2: leaf("c")},
		"a Kid twice":            {0: branch("b", 1, 1), 1: leaf("a", "c")},
		"only itself":            {0: branch("b", 0, 0)},
		"a leaf, a small branch": {0: branch("m", 1, 2), 1: leaf(of50...), 2: branch("t", 3, 4), 3: leaf("n"), 4: leaf("t")},
		"a small branch, a leaf": {0: branch("d", 1, 2), 1: branch("c", 3, 4), 2: leaf(of50...), 3: leaf("b"), 4: leaf("c")},
	} {
		m := &Memory{Room: 3000, At: at}
		was := maps.Clone(at)
		unchanged := func(call string) {
			t.Helper()
			if !maps.EqualFunc(was, m.At, bytes.Equal) {
				t.Errorf("%s: %s changed something", what, call)
			}
		}
		_, _, ok := Check(m, 0)
		check(t, what+": Check", ok, false)
		Get(m, 0, "c")
		Range(m, 0, "", "", math.MaxInt)
		unchanged("looking")
		for _, root := range []int{0, -1, 2999, math.MinInt} {
			for _, k := range []string{"a", "b", "c", "e", "n", "t", "zz"} {
				c := &Memory{Room: 3000, At: maps.Clone(at)}
				if n, e := Put(c, root, k, strings.Repeat("v", 100)); e != api.OK && (n != root || !maps.EqualFunc(was, c.At, bytes.Equal)) {
					t.Errorf("%s: Put %s: %d, %d; or something changed", what, k, n, e)
				}
				c = &Memory{Room: 3000, At: maps.Clone(at)}
				if n, ok := Delete(c, root, k); !ok && (n != root || !maps.EqualFunc(was, c.At, bytes.Equal)) {
					t.Errorf("%s: Delete %s: %d; or something changed", what, k, n)
				}
			}
		}
	}
	n, e := Put(NewMemory(5), 3, "a", "1")
	check(t, "Put where nothing is", []any{n, e}, []any{3, api.ErrForm})
	n, e = Put(nil, 3, "a", "1")
	check(t, "Put without blocks", []any{n, e}, []any{3, api.ErrForm})
	_, ok := New(nil)
	check(t, "New without blocks", ok, false)
	_, _, ok = Check(nil, 0)
	check(t, "Check without blocks", ok, false)
	check(t, "Range without blocks", len(Range(nil, 0, "", "", 9)), 0)
}

// TestSpoilt turns bytes of a tree's blocks: whatever stands there then, each call ends without a panic, and what Check calls sound is so.
func TestSpoilt(t *testing.T) {
	r := rand.New(rand.NewSource(93))
	for range 3000 {
		shape := shapes[[]string{"the least", "the greatest", "long keys", "of many lengths"}[r.Intn(4)]]
		m, root, _ := planted(t, 60, of(shape, rising(30))...)
		for range 1 + r.Intn(3) {
			m.At[r.Intn(m.Used())][r.Intn(40)] = byte(r.Intn(30))
		}
		if pairs, nodes, ok := Check(m, root); ok {
			l := &looked{at: map[int]int{}, depths: map[int]int{}}
			l.under(m, root, 0, true, "", "")
			if l.wrong != "" || len(l.pairs) != pairs || len(l.at) != nodes {
				t.Fatalf("Check: %d, %d; %v", pairs, nodes, l)
			}
		}
		for range 20 {
			Get(m, root, shape(r.Intn(30)).Key)
			Range(m, root, shape(r.Intn(30)).Key, shape(r.Intn(30)).Key, r.Intn(40))
			root, _ = Delete(m, root, shape(r.Intn(30)).Key)
			root, _ = Put(m, root, shape(r.Intn(60)).Key, strings.Repeat("v", r.Intn(101)))
		}
	}
}

// failing is blocks of which a call panics.
type failing struct {
	*Memory
}

func (failing) Write(n int, b []byte) {
	panic(disk.PowerOut{})
}

// TestPowerGoesOn: the panic of a disk below the blocks is none of the tree's business.
func TestPowerGoesOn(t *testing.T) {
	m, root, _ := planted(t, 5, put("a", "1"))
	check(t, "Put", panicked(func() { Put(failing{m}, root, "b", "2") }), disk.PowerOut{})
	check(t, "Delete", panicked(func() { Delete(failing{m}, root, "a") }), disk.PowerOut{})
	check(t, "New", panicked(func() { New(failing{m}) }), disk.PowerOut{})
}

// TestMostKeys: so many keys of the greatest length fit into a branch, so that any key may stand in any place.
func TestMostKeys(t *testing.T) {
	x := api.Node{Kids: make([]int, mostKeys+1)}
	for i := range mostKeys {
		x.Keys = append(x.Keys, fmt.Sprintf("%020d", i))
	}
	check(t, "Check", page.Check(x), api.OK)
}

package store

import (
	"bytes"
	"fmt"
	"maps"
	"math"
	"math/rand"
	"slices"
	"strings"
	"testing"

	"parley/alloc"
	"parley/api"
	"parley/disk"
	"parley/journal"
	"parley/page"
)

func check(t *testing.T, what string, got, want any) {
	t.Helper()
	if g, w := fmt.Sprint(got), fmt.Sprint(want); g != w {
		t.Errorf("%s: %.300s, not %.300s", what, g, w)
	}
}

func put(k, v string) api.Pair {
	return api.Pair{Key: k, Val: v}
}

func gone(k string) api.Pair {
	return api.Pair{Key: k, Gone: true}
}

// list is what a store is held against: the pairs in a map.
type list map[string]string

// with answers the list behind a batch that is in order.
func (l list) with(batch ...api.Pair) list {
	l = maps.Clone(l)
	for _, p := range batch {
		if p.Gone {
			delete(l, p.Key)
		} else {
			l[p.Key] = p.Val
		}
	}
	return l
}

// most answers how many keys there are at most behind any of a batch's changes.
func (l list) most(batch []api.Pair) int {
	n := 0
	for i := range batch {
		n = max(n, len(l.with(batch[:i+1]...)))
	}
	return n
}

func (l list) pairs() []api.Pair {
	var p []api.Pair
	for _, k := range slices.Sorted(maps.Keys(l)) {
		p = append(p, put(k, l[k]))
	}
	return p
}

// random is a disk with something on each block.
func random(t *testing.T, blocks int) *disk.Disk {
	t.Helper()
	image := make([]byte, blocks*256)
	rand.New(rand.NewSource(int64(blocks))).Read(image)
	return load(t, image)
}

func load(t *testing.T, image []byte) *disk.Disk {
	t.Helper()
	d, e := disk.Load(image)
	if e != api.OK {
		t.Fatalf("a disk of %d bytes: %d", len(image), e)
	}
	return d
}

// opened is a store just made.
func opened(t *testing.T, d *disk.Disk) *Store {
	t.Helper()
	if e := Format(d); e != api.OK {
		t.Fatalf("Format: %d", e)
	}
	return reopened(t, d)
}

func reopened(t *testing.T, d *disk.Disk) *Store {
	t.Helper()
	s, e := Open(d)
	if e != api.OK || s == nil {
		t.Fatalf("Open: %d", e)
	}
	return s
}

// holds tells of a store that it is sound, has these pairs, and lets nothing wait on the disk.
func holds(t *testing.T, what string, d *disk.Disk, s *Store, want list) {
	t.Helper()
	if got := s.Range("", "", math.MaxInt); !slices.Equal(got, want.pairs()) {
		t.Fatalf("%s: %.500v, not %.500v", what, got, want.pairs())
	}
	if !s.Sound() || d.Pending() != 0 {
		t.Fatalf("%s: sound %v, %d writes wait", what, s.Sound(), d.Pending())
	}
}

// applied applies a batch that is in order. ErrSpace may be answered only where the words let it: with fewer blocks than 70 and fewer than twice the keys there would be; ErrBig only with more than 500 keys.
func applied(t *testing.T, d *disk.Disk, s *Store, l list, batch ...api.Pair) (list, api.Errno) {
	t.Helper()
	e := s.Apply(batch)
	switch {
	case e == api.OK:
		return l.with(batch...), e
	case e == api.ErrSpace && d.Blocks() < max(70, 2*l.most(batch)), e == api.ErrBig && l.most(batch) > 500:
		return l, e
	}
	t.Fatalf("%d blocks, %d keys, Apply %v: %d", d.Blocks(), len(l), batch, e)
	return nil, 0
}

// powerOut tells whether f panics with just PowerOut{}.
func powerOut(f func()) (out bool) {
	defer func() { out = recover() == any(disk.PowerOut{}) }()
	f()
	return
}

// great is a pair that takes as much room as any.
func great(i int) api.Pair {
	return put(fmt.Sprintf("%020d", i), strings.Repeat("v", 100))
}

// some is a pair with a key and a value of some length.
func some(i int) api.Pair {
	return put(fmt.Sprintf("%03d", i*7919%1000)+strings.Repeat("k", i%18), strings.Repeat("x", i*31%101))
}

func TestP10_1Examples(t *testing.T) {
	d, _ := disk.New(70)
	s := opened(t, d)
	check(t, "b, a", s.Apply([]api.Pair{put("b", "1"), put("a", "2")}), api.OK)
	check(t, "Range", s.Range("", "", 9), []api.Pair{put("a", "2"), put("b", "1")})
	check(t, "a goes, c", s.Apply([]api.Pair{gone("a"), put("c", "3")}), api.OK)
	check(t, "Range", s.Range("", "", 9), []api.Pair{put("b", "1"), put("c", "3")})
	check(t, "three", s.Apply([]api.Pair{put("x", ""), put("y", ""), put("z", "")}), api.ErrBig)
	check(t, "an empty key", s.Apply([]api.Pair{put("", "x")}), api.ErrForm)
	holds(t, "at last", d, s, list{"b": "1", "c": "3"})
	d, _ = disk.New(70)
	s, e := Open(d)
	check(t, "noughts", []any{s == nil, e}, []any{true, api.ErrForm})
	d, _ = disk.New(69)
	s, e = Open(d)
	check(t, "69 blocks", []any{s == nil, e}, []any{true, api.ErrArg})
}

func TestP10_1Disks(t *testing.T) {
	check(t, "MinBlocks", MinBlocks, 70)
	for _, blocks := range []int{1, 2, 24, 69} {
		d := random(t, blocks)
		was := d.Image()
		check(t, fmt.Sprint("Format of ", blocks), Format(d), api.ErrArg)
		for _, open := range []func(*disk.Disk) (*Store, api.Errno){Open, Recover} {
			s, e := open(d)
			check(t, fmt.Sprint(blocks, " blocks opened"), []any{s == nil, e}, []any{true, api.ErrArg})
		}
		if !bytes.Equal(d.Image(), was) || d.Pending() != 0 {
			t.Errorf("%d blocks: something has changed", blocks)
		}
	}
	for _, blocks := range []int{70, 71, 72, 79, 80, 2047, 2048} {
		d := random(t, blocks)
		if s, e := Open(d); s != nil || e != api.ErrForm {
			t.Errorf("%d blocks of anything: %d", blocks, e)
		}
		s := opened(t, d)
		holds(t, fmt.Sprint(blocks, " blocks"), d, s, list{})
		l, _ := applied(t, d, s, list{}, put("a", "1"), put("b", "2"))
		holds(t, fmt.Sprint(blocks, " blocks, changed"), d, s, l)
		s, e := Recover(d)
		check(t, "Recover", e, api.OK)
		holds(t, fmt.Sprint(blocks, " blocks, recovered"), d, s, l)
		s = opened(t, d) // what was there is gone
		holds(t, fmt.Sprint(blocks, " blocks, made anew"), d, s, list{})
	}
}

// TestP10_1NoStore: a disk that has something else, or a store that was spoilt, is none, and nothing changes.
func TestP10_1NoStore(t *testing.T) {
	d := random(t, 79)
	s := opened(t, d)
	l := list{}
	for i := range 30 {
		l, _ = applied(t, d, s, l, some(i))
	}
	first := journalAt + journal.Area(slots)
	var root int
	for i := range d.Blocks() - first {
		b, _ := d.Read(first + i)
		if x, e := page.Decode(b); e == api.OK && !x.Leaf && len(x.Keys) > 3 {
			root = first + i
		}
	}
	for what, spoil := range map[string]func(image []byte){
		"noughts":             func(b []byte) { clear(b) },
		"no head":             func(b []byte) { clear(b[:256]) },
		"another mark":        func(b []byte) { b[0] ^= 1 },
		"another root":        func(b []byte) { b[len(mark)]++ },
		"a root off the disk": func(b []byte) { b[len(mark)+1] = 255 },
		"the map as root":     func(b []byte) { b[len(mark)] = mapAt },
		"behind the head":     func(b []byte) { b[255] = 1 },
		"no map":              func(b []byte) { clear(b[256:512]) },
		"a block more in use": func(b []byte) { b[256+78/8] |= 64 },
		"one off the disk":    func(b []byte) { b[256+79/8] |= 128 },
		"a block less in use": func(b []byte) { b[256+root/8] &^= 1 << (root % 8) },
		"the head not in use": func(b []byte) { b[256] &^= 1 },
		"blocks off the disk": func(b []byte) { b[256+80/8] |= 1 },
		"far off the disk":    func(b []byte) { b[511] = 1 },
		"no journal":          func(b []byte) { clear(b[512:768]) },
		"no node":             func(b []byte) { clear(b[root*256 : root*256+256]) },
		"a node's first byte": func(b []byte) { b[root*256] ^= 3 },
		"a Kid at the head":   func(b []byte) { b[root*256+2], b[root*256+3] = 0, 0 },
		"a circle":            func(b []byte) { b[root*256+2], b[root*256+3] = byte(root), 0 },
	} {
		image := d.Image()
		spoil(image)
		c := load(t, image)
		for _, open := range []func(*disk.Disk) (*Store, api.Errno){Open, Recover} {
			if s, e := open(c); s != nil || e != api.ErrForm {
				t.Errorf("%s: %v, %d", what, s != nil, e)
			}
		}
		if !bytes.Equal(c.Image(), image) || c.Pending() != 0 {
			t.Errorf("%s: something has changed", what)
		}
	}
	holds(t, "at last", d, reopened(t, d), l)
}

// TestP10_1Spoilt: what is opened is sound, whatever was written on the disk; and when somebody writes there behind Open, no call panics.
func TestP10_1Spoilt(t *testing.T) {
	r := rand.New(rand.NewSource(101))
	d := random(t, 80)
	s := opened(t, d)
	for i := range 30 {
		s.Apply([]api.Pair{some(i)})
	}
	for range 3000 {
		image := d.Image()
		for range 1 + r.Intn(3) {
			at := []int{0, 256, 512, journalAt + journal.Area(slots)*256 + r.Intn(20)*256}[r.Intn(4)]
			image[at+r.Intn(40)] = byte(r.Intn(90))
		}
		if s, e := Open(load(t, image)); e == api.OK && !s.Sound() || e != api.OK && (e != api.ErrForm || s != nil) {
			t.Fatalf("Open: %d", e)
		}
		c := load(t, d.Image())
		s := reopened(t, c)
		for n := range c.Blocks() {
			c.Write(n, image[n*256:n*256+256])
			if n%50 == 49 {
				c.Flush()
			}
		}
		c.Flush()
		s.Get(some(3).Key)
		s.Range("", "", 99)
		s.Apply([]api.Pair{some(40), gone(some(7).Key)})
		s.Apply([]api.Pair{gone(some(8).Key), gone(some(9).Key)})
		s.Sound()
	}
}

func TestP10_1Check(t *testing.T) {
	long, longest := strings.Repeat("k", 20), strings.Repeat("v", 100)
	for _, c := range []struct {
		what  string
		batch []api.Pair
		want  api.Errno
	}{
		{"none", nil, api.OK},
		{"an empty list", []api.Pair{}, api.OK},
		{"one", []api.Pair{put("k", "")}, api.OK},
		{"two", []api.Pair{put("k", "v"), gone("x")}, api.OK},
		{"the greatest", []api.Pair{put(long, longest), gone(long)}, api.OK},
		{"the same key twice", []api.Pair{put("k", "1"), put("k", "2")}, api.OK},
		{"any bytes", []api.Pair{put("\x00", "\xff\x00"), put("\xff", "")}, api.OK},
		{"the value of what goes", []api.Pair{{Key: "k", Val: longest + "v", Gone: true}}, api.OK},
		{"three", []api.Pair{put("a", ""), put("b", ""), put("c", "")}, api.ErrBig},
		{"three wrong ones", make([]api.Pair, 3), api.ErrBig},
		{"very many", make([]api.Pair, 1000), api.ErrBig},
		{"an empty key", []api.Pair{put("", "v")}, api.ErrForm},
		{"an empty key, second", []api.Pair{put("k", "v"), put("", "v")}, api.ErrForm},
		{"an empty key goes", []api.Pair{gone("")}, api.ErrForm},
		{"a long key", []api.Pair{put(long+"k", "")}, api.ErrForm},
		{"a long key goes", []api.Pair{put("k", "v"), gone(long + "k")}, api.ErrForm},
		{"a long value", []api.Pair{put("k", longest+"v")}, api.ErrForm},
		{"a long value, second", []api.Pair{gone("k"), put("k", longest+"v")}, api.ErrForm},
	} {
		check(t, c.what+": Check", Check(c.batch), c.want)
		for _, f := range []func(s *Store) api.Errno{
			func(s *Store) api.Errno { return s.Apply(c.batch) },
			func(s *Store) api.Errno { return s.Try(c.batch) },
		} {
			d := random(t, 70)
			s := opened(t, d)
			l, _ := applied(t, d, s, list{}, put("k", "0"), put("z", "9"))
			was := d.Image()
			check(t, c.what, f(s), c.want)
			if c.want == api.OK {
				l = l.with(c.batch...)
			} else if !bytes.Equal(d.Image(), was) {
				t.Errorf("%s: something has changed", c.what)
			}
			holds(t, c.what, d, s, l)
			holds(t, c.what+", opened anew", d, reopened(t, d), l)
		}
	}
}

// batch is one of up to two changes, some of keys that are there.
func batch(r *rand.Rand, l list, pair func(i int) api.Pair, keys int) []api.Pair {
	var b []api.Pair
	for range r.Intn(7) % 3 {
		p := pair(r.Intn(keys))
		if r.Intn(3) == 0 {
			p.Val = strings.Repeat("y", r.Intn(101))
		}
		if p.Gone = r.Intn(5) < 2; p.Gone && len(l) > 0 && r.Intn(4) > 0 {
			p.Key = slices.Sorted(maps.Keys(l))[r.Intn(len(l))]
		}
		b = append(b, p)
	}
	return b
}

func TestP10_1Rows(t *testing.T) {
	for seed := range 40 {
		r := rand.New(rand.NewSource(int64(seed)))
		pair := []func(i int) api.Pair{some, great}[seed%2]
		d := random(t, 70+r.Intn(3)*100)
		s := opened(t, d)
		l := list{}
		for i := range 300 {
			b := batch(r, l, pair, 100)
			l, _ = applied(t, d, s, l, b...)
			for _, p := range b {
				v, ok := s.Get(p.Key)
				want, there := l[p.Key]
				check(t, "Get", []any{v, ok}, []any{want, there})
			}
			if i%20 == 0 {
				holds(t, fmt.Sprintf("seed %d, batch %d", seed, i), d, s, l)
				s = reopened(t, d)
				holds(t, fmt.Sprintf("seed %d, batch %d, opened anew", seed, i), d, s, l)
			}
		}
	}
}

func TestP10_1GetRange(t *testing.T) {
	d := random(t, 200)
	s := opened(t, d)
	l := list{}
	for i := range 60 {
		l, _ = applied(t, d, s, l, some(i))
	}
	pairs := l.pairs()
	for i, p := range pairs {
		v, ok := s.Get(p.Key)
		check(t, "Get", []any{v, ok}, []any{p.Val, true})
		v, ok = s.Get(p.Key + "\x00")
		check(t, "Get of more", []any{v, ok}, []any{"", false})
		check(t, "from there", s.Range(p.Key, "", 99), pairs[i:])
		check(t, "below", s.Range("", p.Key, 99), pairs[:i])
		check(t, "from there, five", s.Range(p.Key, "", 5), pairs[i:min(i+5, len(pairs))])
	}
	for _, k := range []string{"", strings.Repeat("k", 21), "zz"} {
		v, ok := s.Get(k)
		check(t, "Get "+k, []any{v, ok}, []any{"", false})
	}
	for _, most := range []int{0, -1, math.MinInt} {
		check(t, "none", len(s.Range("", "", most)), 0)
	}
	check(t, "the wrong way round", len(s.Range("9", "1", 99)), 0)
}

// TestP10_1Full: with twice as many blocks as keys, and 70, there is room; where there is none, nothing changes.
func TestP10_1Full(t *testing.T) {
	for _, blocks := range []int{70, 71, 90, 200, 501} {
		for step, order := range map[string]func(i int) int{"rising": func(i int) int { return i }, "falling": func(i int) int { return -i }, "mixed": func(i int) int { return i * 7919 % 10007 }} {
			d := random(t, blocks)
			s := opened(t, d)
			l, full := list{}, 0
			for i := 0; full < 20; i += 2 {
				was := d.Image()
				b := []api.Pair{great(20000 + order(i)), great(20000 + order(i+1))}
				var e api.Errno
				if l, e = applied(t, d, s, l, b...); e == api.OK {
					continue
				}
				full++
				if !bytes.Equal(d.Image(), was) || d.Pending() != 0 {
					t.Fatalf("%d blocks, %s: ErrSpace, and something has changed", blocks, step)
				}
				if s.Try(b) != api.ErrSpace { // the same is answered again
					t.Fatalf("%d blocks, %s: ErrSpace, and then something else", blocks, step)
				}
			}
			holds(t, fmt.Sprintf("%d blocks, %s, full", blocks, step), d, s, l)
			for _, p := range l.pairs() { // the room of what goes can be had at once
				l, _ = applied(t, d, s, l, gone(p.Key), put(p.Key[1:], p.Val))
			}
			holds(t, fmt.Sprintf("%d blocks, %s, changed", blocks, step), d, s, l)
			for _, p := range l.pairs() {
				l, _ = applied(t, d, s, l, gone(p.Key))
			}
			holds(t, fmt.Sprintf("%d blocks, %s, emptied", blocks, step), d, reopened(t, d), list{})
		}
	}
}

// TestP10_1Many: the greatest disk, with keys that make the tree deep, and then very many small ones. There is no ErrBig.
func TestP10_1Many(t *testing.T) {
	d := random(t, 2048)
	s := opened(t, d)
	l := list{}
	apply := func(b ...api.Pair) {
		t.Helper()
		if e := s.Apply(b); e != api.OK {
			t.Fatalf("%d keys, Apply %v: %d", len(l), b, e)
		}
		for _, p := range b {
			if p.Gone {
				delete(l, p.Key)
			} else {
				l[p.Key] = p.Val
			}
		}
	}
	for i := 0; i < 1000; i += 2 {
		apply(great(i*7919%10007), great(5*(i+1)))
	}
	holds(t, "great ones", d, reopened(t, d), l)
	for i := range 500 {
		apply(gone(great(i*7919%10007).Key), put(fmt.Sprint("m", i), ""))
	}
	holds(t, "great ones gone", d, reopened(t, d), l)
	for _, p := range l.pairs() {
		apply(gone(p.Key))
	}
	for i := 0; i < 10000; i += 2 {
		apply(put(fmt.Sprint(i*7919%10007), ""), put(fmt.Sprint(i+1), ""))
	}
	holds(t, "small ones", d, reopened(t, d), l)
}

// TestP10_1MostChanged: no batch changes as many blocks as the journal has slots.
func TestP10_1MostChanged(t *testing.T) {
	most := 0
	r := rand.New(rand.NewSource(102))
	for range 3 {
		d := random(t, 2048)
		s := opened(t, d)
		tall := []int{}
		for i := range 990 {
			tall = append(tall, i)
		}
		if r.Intn(2) == 0 {
			r.Shuffle(len(tall), func(i, j int) { tall[i], tall[j] = tall[j], tall[i] })
		}
		for i, n := range tall {
			b := []api.Pair{great(n), great(tall[len(tall)-1-i])}
			if i > 600 {
				b[1] = gone(great(tall[i-600]).Key)
			}
			draft, _ := s.draft()
			for _, p := range b {
				draft.change(p)
			}
			most = max(most, len(draft.changes()))
			if e := s.Apply(b); e != api.OK {
				t.Fatalf("Apply: %d", e)
			}
		}
	}
	t.Log("most blocks changed:", most)
	if most > slots || most < 6 {
		t.Errorf("%d blocks changed", most)
	}
}

// crashes are what may happen to n waiting writes: each one alone lands, or is lost, or is torn; all, none; and some at random.
func crashes(r *rand.Rand, n int) [][3]int {
	l := [][3]int{{0, -1, 0}, {-1, -1, 0}}
	for i := range n {
		one := 1 << i
		l = append(l, [3]int{one, -1, 0}, [3]int{^one, -1, 0}, [3]int{one - 1, -1, 0}, [3]int{0, i, 1 + r.Intn(7)}, [3]int{^one, i, 1 + r.Intn(7)}, [3]int{one - 1, i, 1 + r.Intn(7)})
	}
	for range 6 {
		l = append(l, [3]int{r.Int(), r.Intn(n + 1), r.Intn(9)})
	}
	return l
}

// cut lets the power go out in f at each call of the disk in turn, and crashes it in many ways; at last, when f ends, it is done.
func cut(t *testing.T, r *rand.Rand, image []byte, f func(d *disk.Disk) api.Errno, then func(d *disk.Disk, e api.Errno)) {
	t.Helper()
	for arm := 0; ; arm++ {
		d := load(t, image)
		d.Arm(arm)
		e := f(d)
		if e != api.ErrPower {
			then(d, e)
			return
		}
		for _, c := range crashes(r, d.Pending()) {
			d := load(t, image)
			d.Arm(arm)
			f(d)
			d.Crash(uint64(c[0]), c[1], c[2])
			then(d, e)
		}
	}
}

// grown is the image of a store with these pairs.
func grown(t *testing.T, blocks int, pairs ...api.Pair) ([]byte, list) {
	t.Helper()
	d := random(t, blocks)
	s := opened(t, d)
	l := list{}
	for _, p := range pairs {
		l, _ = applied(t, d, s, l, p)
	}
	return d.Image(), l
}

func row(pair func(i int) api.Pair, n int) []api.Pair {
	var l []api.Pair
	for i := range n {
		l = append(l, pair(i))
	}
	return l
}

// cases of batches that change a little and a lot: within a leaf, with leaves and branches split and joined, with a root more and a root less.
func cases(t *testing.T, f func(what string, image []byte, l list, b []api.Pair)) {
	for _, c := range []struct {
		what  string
		pairs []api.Pair
		batch []api.Pair
	}{
		{"an empty store", nil, []api.Pair{put("a", "1"), put("b", "2")}},
		{"within a leaf", row(some, 3), []api.Pair{put("a", "1"), gone(some(1).Key)}},
		{"the first root more", row(great, 2), []api.Pair{great(5), great(-5)}},
		{"leaves split", row(great, 10), []api.Pair{great(100), put("A", strings.Repeat("v", 100))}},
		{"branches split", row(great, 12), []api.Pair{great(100), great(101)}},
		{"far from each other", row(some, 60), []api.Pair{great(1), put("zzz", strings.Repeat("v", 100))}},
		{"a root less", row(great, 3), []api.Pair{gone(great(0).Key), gone(great(2).Key)}},
		{"all gone", row(great, 2), []api.Pair{gone(great(0).Key), gone(great(1).Key)}},
		{"branches joined", row(great, 13), []api.Pair{gone(great(0).Key), gone(great(1).Key)}},
		{"one comes, one goes", row(great, 40), []api.Pair{gone(great(7).Key), great(70)}},
		{"the same key", row(some, 9), []api.Pair{gone(some(2).Key), put(some(2).Key, "again")}},
	} {
		image, l := grown(t, 110, c.pairs...)
		f(c.what, image, l, c.batch)
	}
}

// TestP10_2EachCut cuts a batch at each call of the disk, with many crashes, and the recovery behind it again.
func TestP10_2EachCut(t *testing.T) {
	r := rand.New(rand.NewSource(103))
	cases(t, func(what string, image []byte, l list, b []api.Pair) {
		after := l.with(b...)
		both := map[bool]int{}
		cut(t, r, image, func(d *disk.Disk) api.Errno { return reopened(t, d).Try(b) }, func(d *disk.Disk, e api.Errno) {
			broken := d.Image()
			s := reopened(t, d)
			_, all := s.Get(b[1].Key)
			all = all != b[1].Gone
			if what == "the same key" {
				v, _ := s.Get(b[1].Key)
				all = v == "again"
			}
			both[all]++
			want := l
			if all {
				want = after
			}
			holds(t, fmt.Sprintf("%s, %d", what, e), d, s, want)
			if e == api.OK && !all {
				t.Fatalf("%s: OK, and it isn't there", what)
			}
			if r.Intn(8) > 0 {
				return
			}
			cut(t, r, broken, func(d *disk.Disk) api.Errno { _, e := Recover(d); return e }, func(d *disk.Disk, _ api.Errno) {
				s, e := Recover(d)
				check(t, what+": Recover", e, api.OK)
				holds(t, what+", cut in Recover", d, s, want)
			})
		})
		if both[false] == 0 || both[true] == 0 {
			t.Errorf("%s: %v", what, both)
		}
	})
}

// TestP10_2Rows: rows of batches with power failures in them and in Recover.
func TestP10_2Rows(t *testing.T) {
	for seed := range 60 {
		r := rand.New(rand.NewSource(int64(seed)))
		pair := []func(i int) api.Pair{some, great}[seed%2]
		d := random(t, 70+r.Intn(2)*60)
		s := opened(t, d)
		l := list{}
		for i := range 150 {
			b := batch(r, l, pair, 80)
			if r.Intn(3) > 0 {
				d.Arm(r.Intn(40))
			}
			e := s.Try(b)
			after := l.with(b...)
			switch {
			case e == api.OK:
				l = after
			case e == api.ErrSpace && d.Blocks() < max(70, 2*l.most(b)):
			case e != api.ErrPower:
				t.Fatalf("seed %d, batch %d: %d", seed, i, e)
			}
			if e != api.ErrPower && r.Intn(3) > 0 {
				d.Arm(-1)
				continue
			}
			d.Crash(r.Uint64(), r.Intn(30)-1, r.Intn(10))
			for {
				d.Arm(r.Intn(60) - 20)
				var f api.Errno
				if s, f = Recover(d); f == api.OK {
					break
				} else if f != api.ErrPower || s != nil {
					t.Fatalf("seed %d, batch %d: Recover: %d", seed, i, f)
				}
				d.Crash(r.Uint64(), r.Intn(30)-1, r.Intn(10))
			}
			d.Arm(-1)
			if e == api.ErrPower && slices.Equal(s.Range("", "", 999), after.pairs()) {
				l = after
			}
			holds(t, fmt.Sprintf("seed %d, batch %d", seed, i), d, s, l)
		}
	}
}

// TestP10_2Panic: PowerOut goes out of Apply and Open, and of no other call; Try and Recover answer ErrPower.
func TestP10_2Panic(t *testing.T) {
	image, l := grown(t, 80, row(some, 20)...)
	b := []api.Pair{put("a", "1"), gone(some(3).Key)}
	d := load(t, image)
	s := reopened(t, d)
	d.Arm(0)
	check(t, "Apply", powerOut(func() { s.Apply(b) }), true)
	d.Crash(0, -1, 0)
	holds(t, "behind Apply", d, reopened(t, d), l)

	s = reopened(t, d)
	d.Arm(0)
	check(t, "Try", s.Try(b), api.ErrPower)
	check(t, "looking", powerOut(func() { s.Get("a"); s.Range("", "", 9); s.Sound(); Check(b) }), false)
	check(t, "an error", s.Try(make([]api.Pair, 3)), api.ErrBig)
	s, e := Recover(d) // there is nothing to be finished, so that nothing is written
	check(t, "Recover", []any{s != nil, e}, []any{true, api.OK})
	d.Crash(0, -1, 0)

	for arm := 0; ; arm++ { // till the batch counts, and is to be finished
		d = load(t, image)
		s = reopened(t, d)
		d.Arm(arm)
		check(t, "Try", s.Try(b), api.ErrPower)
		d.Crash(math.MaxUint64, -1, 0)
		d.Arm(0)
		if powerOut(func() { Open(d) }) {
			break
		}
	}
	s, e = Recover(d)
	check(t, "Recover", []any{s == nil, e}, []any{true, api.ErrPower})
	d.Crash(0, -1, 0)
	holds(t, "behind Recover", d, reopened(t, d), l.with(b...))

	d = random(t, 80)
	d.Arm(0)
	check(t, "Format", powerOut(func() { Format(d) }), true)
}

// TestP10_2Format: what Format made is a store, whatever crashes there are behind it.
func TestP10_2Format(t *testing.T) {
	d := random(t, 70)
	check(t, "Format", Format(d), api.OK)
	check(t, "writes that wait", d.Pending(), 0)
	d.Crash(0, 0, 4)
	holds(t, "behind a crash", d, reopened(t, d), list{})
	image, _ := grown(t, 70, row(some, 20)...)
	for arm := 0; ; arm++ { // a Format that was cut may have left anything, but no call panics, and the next one makes a store
		d := load(t, image)
		d.Arm(arm)
		out := powerOut(func() { Format(d) })
		d.Crash(uint64(arm)*7, 1, 3)
		if s, e := Recover(d); e == api.OK && !s.Sound() || e != api.OK && e != api.ErrForm {
			t.Errorf("Format cut at %d: Recover: %d", arm, e)
		}
		holds(t, "made anew", d, opened(t, d), list{})
		if !out {
			break
		}
	}
}

func TestP10_3(t *testing.T) {
	d := random(t, 80)
	s := opened(t, d)
	b := []api.Pair{put("a", "1"), {Key: "b", Val: "2", Gone: true}, put("c", "3")}
	was := slices.Clone(b)
	for _, part := range [][]api.Pair{b[:0], b[:1], b[:2], b} {
		Check(part)
		s.Apply(part)
		s.Try(part)
	}
	check(t, "what was handed in", b, was)
	b[0] = put("z", "9")
	holds(t, "behind a change of it", d, s, list{"a": "1"})
	first, second := s.Range("", "", 9), s.Range("", "", 9)
	first[0].Key = "y"
	check(t, "another answer", second, []api.Pair{put("a", "1")})
	holds(t, "behind a change of an answer", d, s, list{"a": "1"})
}

// TestUnopened: the calls of a Store that nobody opened end.
func TestUnopened(t *testing.T) {
	s := &Store{}
	v, ok := s.Get("a")
	check(t, "Get", []any{v, ok}, []any{"", false})
	check(t, "Range", len(s.Range("", "", 9)), 0)
	check(t, "Sound", s.Sound(), true)
	check(t, "Apply", s.Apply([]api.Pair{put("a", "1")}), api.ErrForm)
	check(t, "Try", s.Try(make([]api.Pair, 3)), api.ErrBig)
}

// TestDraft: the blocks that the tree stands on are as its chapter says of blocks, and the disk stays as it is.
func TestDraft(t *testing.T) {
	image, _ := grown(t, 80, row(some, 20)...)
	d := load(t, image)
	b, _ := reopened(t, d).draft()
	n, ok := b.Take()
	again, _ := b.Take()
	check(t, "Take", []any{ok, n == again}, []any{true, false})
	check(t, "taken and not written", len(b.Read(n)), 0)
	data := []byte("abc")
	b.Write(n, data)
	clear(data)
	clear(b.Read(n))
	check(t, "written", string(b.Read(n)), "abc")
	b.Give(n)
	least, _ := b.Take()
	check(t, "given and taken anew", []int{least, len(b.Read(n))}, []int{n, 0})
	b.Give(n)
	b.Give(n)
	check(t, "given", slices.Contains(slices.Collect(maps.Keys(b.wrote)), n), false)
	for _, n := range []int{-1, 80, math.MaxInt} {
		b.Give(n)
		check(t, "a block off the disk", len(b.Read(n)), 0)
	}
	free, _ := alloc.Free(b.used)
	left := -1
	for ok = true; ok; left++ {
		_, ok = b.Take()
	}
	check(t, "blocks that were left", []int{left, free}, []int{free, max(free, 9)})
	if !bytes.Equal(d.Image(), image) || d.Pending() != 0 {
		t.Error("something has changed")
	}
}

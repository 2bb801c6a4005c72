package rlog

import (
	"bytes"
	"fmt"
	"math"
	"math/rand"
	"slices"
	"strings"
	"testing"

	"parley/api"
	"parley/disk"
	"parley/store"
)

func check(t *testing.T, what string, got, want any) {
	t.Helper()
	if g, w := fmt.Sprint(got), fmt.Sprint(want); g != w {
		t.Errorf("%s: %.300s, not %.300s", what, g, w)
	}
}

// content is what a log says.
type content struct {
	term, vote int
	entries    []api.Entry
}

// with answers the content behind a Put that is in order.
func (c content) with(from int, entries []api.Entry) content {
	c.entries = slices.Concat(c.entries[:from-1], entries)
	return c
}

func (c content) equal(o content) bool {
	return c.term == o.term && c.vote == o.vote && slices.Equal(c.entries, o.entries)
}

var empty = content{vote: -1}

// said is what a log says of itself.
func said(l *Log) content {
	term, vote := l.State()
	return content{term, vote, l.Entries()}
}

// row is n entries that have their number and a letter as data.
func row(letter string, n int) []api.Entry {
	var l []api.Entry
	for i := range n {
		l = append(l, api.Entry{Term: 1 + i/3, Data: letter + fmt.Sprint(i)})
	}
	return l
}

// great is n entries that take as much room as any.
func great(letter string, n int) []api.Entry {
	l := slices.Repeat([]api.Entry{{Term: math.MaxInt, Data: strings.Repeat(letter, 80)}}, n)
	for i := range l {
		l[i].Term -= i
	}
	return l
}

// some is up to n entries of all lengths, with any bytes.
func some(r *rand.Rand, n int) []api.Entry {
	l := make([]api.Entry, r.Intn(n+1))
	for i := range l {
		b := make([]byte, r.Intn(81))
		r.Read(b)
		l[i] = api.Entry{Term: r.Intn(3) * r.Intn(1000), Data: string(b)}
	}
	return l
}

// random is a disk with something on each block.
func random(t *testing.T, blocks int) *disk.Disk {
	t.Helper()
	image := make([]byte, blocks*256)
	rand.New(rand.NewSource(int64(blocks))).Read(image)
	return load(t, image)
}

func load(t *testing.T, image []byte) *disk.Disk {
	t.Helper()
	d, e := disk.Load(image)
	if e != api.OK {
		t.Fatalf("a disk of %d bytes: %d", len(image), e)
	}
	return d
}

// made is an empty store.
func made(t *testing.T, d *disk.Disk) *store.Store {
	t.Helper()
	if e := store.Format(d); e != api.OK {
		t.Fatalf("Format: %d", e)
	}
	s, e := store.Open(d)
	if e != api.OK {
		t.Fatalf("Open of the store: %d", e)
	}
	return s
}

// opened is the log of an empty store.
func opened(t *testing.T, d *disk.Disk) *Log {
	t.Helper()
	made(t, d)
	return reopened(t, d)
}

func reopened(t *testing.T, d *disk.Disk) *Log {
	t.Helper()
	s, e := store.Recover(d)
	if e != api.OK {
		t.Fatalf("Recover of the store: %d", e)
	}
	l, e := Open(s)
	if e != api.OK || l == nil {
		t.Fatalf("Open: %d", e)
	}
	return l
}

// holds tells that the log says this, also when it is opened anew.
func holds(t *testing.T, what string, d *disk.Disk, l *Log, want content) {
	t.Helper()
	for _, l := range []*Log{l, reopened(t, d)} {
		if got := said(l); !got.equal(want) {
			t.Fatalf("%s: %.600v, not %.600v", what, got, want)
		}
		if l.Last() != len(want.entries) {
			t.Fatalf("%s: Last %d, not %d", what, l.Last(), len(want.entries))
		}
	}
	if d.Pending() != 0 {
		t.Fatalf("%s: %d writes wait", what, d.Pending())
	}
}

// filled is the image of a disk with a log that says this.
func filled(t *testing.T, blocks int, c content) []byte {
	t.Helper()
	d := random(t, blocks)
	l := opened(t, d)
	check(t, "SetState", l.SetState(c.term, c.vote), api.OK)
	check(t, "Put", l.Put(1, c.entries), api.OK)
	holds(t, "filled", d, l, c)
	return d.Image()
}

func TestP11_1Examples(t *testing.T) {
	d := random(t, 80)
	l := opened(t, d)
	a, b, c, x := api.Entry{Term: 1, Data: "a"}, api.Entry{Term: 1, Data: "b"}, api.Entry{Term: 2, Data: "c"}, api.Entry{Term: 3, Data: "d"}
	check(t, "a, b, c", l.Put(1, []api.Entry{a, b, c}), api.OK)
	holds(t, "a, b, c", d, l, content{0, -1, []api.Entry{a, b, c}})
	check(t, "d", l.Put(2, []api.Entry{x}), api.OK)
	holds(t, "a, d", d, l, content{0, -1, []api.Entry{a, x}})
	check(t, "at 4", l.Put(4, []api.Entry{x}), api.ErrArg)
	check(t, "term 3", l.SetState(3, 1), api.OK)
	check(t, "term 2", l.SetState(2, 0), api.ErrOld)
	check(t, "a vote for 7", l.SetState(3, 7), api.ErrArg)
	holds(t, "at last", d, l, content{3, 1, []api.Entry{a, x}})
}

func TestP11_1Check(t *testing.T) {
	for _, c := range []struct {
		what string
		e    api.Entry
		want bool
	}{
		{"the zero one", api.Entry{}, true},
		{"one", api.Entry{Term: 7, Data: "abc"}, true},
		{"any bytes", api.Entry{Term: 1, Data: "\x00:\xff\n-1:"}, true},
		{"the greatest term", api.Entry{Term: math.MaxInt}, true},
		{"the longest", api.Entry{Data: strings.Repeat("x", 80)}, true},
		{"the greatest", great("x", 1)[0], true},
		{"a term below 0", api.Entry{Term: -1}, false},
		{"the least term", api.Entry{Term: math.MinInt, Data: "x"}, false},
		{"too long", api.Entry{Data: strings.Repeat("x", 81)}, false},
		{"far too long", api.Entry{Data: strings.Repeat("x", 100000)}, false},
		{"wrong altogether", api.Entry{Term: -5, Data: strings.Repeat("x", 81)}, false},
	} {
		check(t, c.what, Check(c.e), c.want)
		d := random(t, 80)
		l := opened(t, d)
		want, e := empty.with(1, []api.Entry{c.e}), api.OK
		if !c.want {
			want, e = empty, api.ErrForm
		}
		check(t, c.what+": Put", l.Put(1, []api.Entry{c.e}), e)
		holds(t, c.what, d, l, want)
	}
}

// TestP11_1Open: an empty store is an empty log, and what logs have written is one; a store that has something else isn't, and nothing changes.
func TestP11_1Open(t *testing.T) {
	d := random(t, 80)
	holds(t, "an empty store", d, opened(t, d), empty)
	entry := func(key string, text string) api.Pair { return api.Pair{Key: key, Val: text} }
	first, second := entry(entryKey(1), "1:a"), entry(entryKey(2), "1:b")
	for _, c := range []struct {
		what  string
		pairs []api.Pair
		want  api.Errno
	}{
		{"one entry", []api.Pair{first}, api.OK},
		{"two and a state", []api.Pair{first, second, entry(stateKey, "4:2")}, api.OK},
		{"a state", []api.Pair{entry(stateKey, "0:-1")}, api.OK},
		{"another key", []api.Pair{entry("a", "1:a")}, api.ErrForm},
		{"another key behind", []api.Pair{first, entry("x", "1:a")}, api.ErrForm},
		{"a key behind the state", []api.Pair{first, entry(stateKey, "4:2"), entry(stateKey+"s", "4:2")}, api.ErrForm},
		{"a key within the entries", []api.Pair{first, entry(entryKey(1)+"0", "1:a")}, api.ErrForm},
		{"number 0", []api.Pair{entry(entryKey(0), "1:a")}, api.ErrForm},
		{"number 2 alone", []api.Pair{second}, api.ErrForm},
		{"number 2 wanting", []api.Pair{first, entry(entryKey(3), "1:c")}, api.ErrForm},
		{"number 401", []api.Pair{entry(entryKey(401), "1:c")}, api.ErrForm},
		{"an empty value", []api.Pair{entry(entryKey(1), "")}, api.ErrForm},
		{"no term", []api.Pair{entry(entryKey(1), ":a")}, api.ErrForm},
		{"a term alone", []api.Pair{entry(entryKey(1), "1")}, api.ErrForm},
		{"a term below 0", []api.Pair{entry(entryKey(1), "-1:a")}, api.ErrForm},
		{"a 0 ahead", []api.Pair{entry(entryKey(1), "01:a")}, api.ErrForm},
		{"a term with +", []api.Pair{entry(entryKey(1), "+1:a")}, api.ErrForm},
		{"a term of letters", []api.Pair{entry(entryKey(1), "x:a")}, api.ErrForm},
		{"too great a term", []api.Pair{entry(entryKey(1), "99999999999999999999:a")}, api.ErrForm},
		{"too much data", []api.Pair{entry(entryKey(1), "1:"+strings.Repeat("x", 81))}, api.ErrForm},
		{"a state of nobody's", []api.Pair{entry(stateKey, "4:-2")}, api.ErrForm},
		{"a vote for 7", []api.Pair{entry(stateKey, "4:7")}, api.ErrForm},
		{"a state below 0", []api.Pair{entry(stateKey, "-4:1")}, api.ErrForm},
		{"a state of letters", []api.Pair{entry(stateKey, "x:1")}, api.ErrForm},
		{"half a state", []api.Pair{entry(stateKey, "4")}, api.ErrForm},
		{"more than a state", []api.Pair{entry(stateKey, "4:1:1")}, api.ErrForm},
	} {
		d := random(t, 80)
		s := made(t, d)
		for _, p := range c.pairs {
			check(t, c.what+": Apply", s.Apply([]api.Pair{p}), api.OK)
		}
		was := d.Image()
		l, e := Open(s)
		check(t, c.what, []any{e, l == nil}, []any{c.want, c.want != api.OK})
		if !bytes.Equal(d.Image(), was) || d.Pending() != 0 {
			t.Errorf("%s: something has changed", c.what)
		}
	}
}

// TestP11_1OpenFull: a full log is one; with one entry more, or something else behind it, it isn't.
func TestP11_1OpenFull(t *testing.T) {
	c := content{7, 3, row("x", 400)}
	d := load(t, filled(t, 900, c))
	s, _ := store.Open(d)
	check(t, "something behind", s.Apply([]api.Pair{{Key: "z", Val: "1:a"}}), api.OK)
	_, e := Open(s)
	check(t, "something behind", e, api.ErrForm)
	check(t, "nothing behind", s.Apply([]api.Pair{{Key: "z", Gone: true}}), api.OK)
	holds(t, "full, with a state", d, reopened(t, d), c)
	check(t, "one more", s.Apply([]api.Pair{{Key: entryKey(401), Val: "1:a"}}), api.OK)
	l, e := Open(s)
	check(t, "one more", []any{l == nil, e}, []any{true, api.ErrForm})
	check(t, "no state", s.Apply([]api.Pair{{Key: stateKey, Gone: true}}), api.OK)
	l, e = Open(s)
	check(t, "one more, no state", []any{l == nil, e}, []any{true, api.ErrForm})
	check(t, "one less", s.Apply([]api.Pair{{Key: entryKey(401), Gone: true}}), api.OK)
	holds(t, "full", d, reopened(t, d), content{0, -1, c.entries})
}

func TestP11_1SetState(t *testing.T) {
	for _, c := range []struct {
		what       string
		term, vote int
		want       api.Errno
	}{
		{"the same", 5, 2, api.OK},
		{"another vote", 5, 3, api.OK},
		{"no vote", 5, -1, api.OK},
		{"the least vote", 5, 0, api.OK},
		{"the greatest vote", 6, 6, api.OK},
		{"the next term", 6, -1, api.OK},
		{"the greatest term", math.MaxInt, 1, api.OK},
		{"the term ahead", 4, 2, api.ErrOld},
		{"term 0", 0, -1, api.ErrOld},
		{"a vote for 7", 5, 7, api.ErrArg},
		{"a vote for very many", 9, math.MaxInt, api.ErrArg},
		{"a vote for -2", 6, -2, api.ErrArg},
		{"the least vote of all", 6, math.MinInt, api.ErrArg},
		{"a term below 0", -1, 2, api.ErrArg},
		{"the least term", math.MinInt, -1, api.ErrArg},
		{"an old term, a wrong vote", 4, 7, api.ErrArg},
	} {
		was := content{5, 2, row("x", 4)}
		for what, set := range map[string]func(l *Log) api.Errno{
			"SetState": func(l *Log) api.Errno { return l.SetState(c.term, c.vote) },
			"Try":      func(l *Log) api.Errno { return l.Try(5, nil, c.term, c.vote) },
		} {
			d := load(t, filled(t, 80, was))
			l, want := reopened(t, d), was
			if c.want == api.OK {
				want = content{c.term, c.vote, was.entries}
			}
			image := d.Image()
			check(t, what+" "+c.what, set(l), c.want)
			holds(t, what+" "+c.what, d, l, want)
			if c.want != api.OK && !bytes.Equal(d.Image(), image) {
				t.Errorf("%s %s: something has changed", what, c.what)
			}
		}
	}
	d := random(t, 80)
	l := opened(t, d)
	check(t, "the first state", l.SetState(0, -1), api.OK)
	holds(t, "the first state", d, l, empty)
	check(t, "the second one", l.SetState(0, 0), api.OK)
	holds(t, "the second one", d, l, content{0, 0, nil})
}

func TestP11_1Put(t *testing.T) {
	was := content{5, 2, row("x", 6)}
	wrong := []api.Entry{{Term: 1, Data: "a"}, {Term: -1}}
	for _, c := range []struct {
		what    string
		from    int
		entries []api.Entry
		want    api.Errno
	}{
		{"one behind", 7, row("y", 1), api.OK},
		{"some behind", 7, row("y", 5), api.OK},
		{"none behind", 7, nil, api.OK},
		{"none", 1, nil, api.OK},
		{"an empty list", 3, []api.Entry{}, api.OK},
		{"the last one goes", 6, nil, api.OK},
		{"another last one", 6, row("y", 1), api.OK},
		{"all anew", 1, row("y", 3), api.OK},
		{"as many", 3, row("y", 4), api.OK},
		{"more", 3, row("y", 9), api.OK},
		{"the same", 1, was.entries, api.OK},
		{"fewer of the same", 1, was.entries[:3], api.OK},
		{"full", 7, row("y", 394), api.OK},
		{"full from 1 on", 1, row("y", 400), api.OK},
		{"at 0", 0, row("y", 1), api.ErrArg},
		{"at -1", -1, nil, api.ErrArg},
		{"at the least", math.MinInt, row("y", 1), api.ErrArg},
		{"behind a gap", 8, row("y", 1), api.ErrArg},
		{"nothing behind a gap", 8, nil, api.ErrArg},
		{"at the greatest", math.MaxInt, row("y", 1), api.ErrArg},
		{"one too many", 7, row("y", 395), api.ErrBig},
		{"one too many from 1 on", 1, row("y", 401), api.ErrBig},
		{"very many", 1, make([]api.Entry, 100000), api.ErrBig},
		{"a wrong one", 3, wrong, api.ErrForm},
		{"a wrong one first", 1, wrong[1:], api.ErrForm},
		{"a long one last", 7, append(row("y", 9), api.Entry{Data: strings.Repeat("x", 81)}), api.ErrForm},
		{"a wrong one behind a gap", 8, wrong, api.ErrArg},
		{"too many behind a gap", 8, row("y", 401), api.ErrArg},
		{"too many wrong ones", 1, slices.Repeat(wrong, 201), api.ErrBig},
	} {
		for what, put := range map[string]func(l *Log) api.Errno{
			"Put": func(l *Log) api.Errno { return l.Put(c.from, c.entries) },
			"Try": func(l *Log) api.Errno { return l.Try(c.from, c.entries, 5, 2) },
		} {
			d := load(t, filled(t, 900, was))
			l, want, image := reopened(t, d), was, d.Image()
			if c.want == api.OK {
				want = was.with(c.from, c.entries)
			}
			check(t, what+" "+c.what, put(l), c.want)
			holds(t, what+" "+c.what, d, l, want)
			if c.want != api.OK && !bytes.Equal(d.Image(), image) {
				t.Errorf("%s %s: something has changed", what, c.what)
			}
		}
	}
}

// TestP11_1Try: it is SetState, and Put only if that is OK; an error of Put doesn't take back the state.
func TestP11_1Try(t *testing.T) {
	was := content{5, 2, row("x", 4)}
	for _, c := range []struct {
		what       string
		from       int
		entries    []api.Entry
		term, vote int
		want       api.Errno
		then       content
	}{
		{"both", 3, row("y", 3), 6, 1, api.OK, content{6, 1, slices.Concat(was.entries[:2], row("y", 3))}},
		{"a wrong vote", 3, row("y", 3), 6, 7, api.ErrArg, was},
		{"an old term", 3, row("y", 3), 4, 1, api.ErrOld, was},
		{"an old term, and a gap", 9, nil, 4, 1, api.ErrOld, was},
		{"a gap", 6, row("y", 3), 6, 1, api.ErrArg, content{6, 1, was.entries}},
		{"too many", 1, row("y", 401), 6, 1, api.ErrBig, content{6, 1, was.entries}},
		{"no entry", 1, []api.Entry{{Term: -1}}, 5, 3, api.ErrForm, content{5, 3, was.entries}},
	} {
		d := load(t, filled(t, 100, was))
		l := reopened(t, d)
		check(t, c.what, l.Try(c.from, c.entries, c.term, c.vote), c.want)
		holds(t, c.what, d, l, c.then)
	}
}

// TestP11_1Rows: rows of calls, held against a list.
func TestP11_1Rows(t *testing.T) {
	for seed := range 30 {
		r := rand.New(rand.NewSource(int64(seed)))
		d := random(t, 300)
		l := opened(t, d)
		c := empty
		for i := range 80 {
			from := 1 + r.Intn(len(c.entries)+1)
			entries := some(r, min(12, 100-from))
			if r.Intn(3) == 0 {
				c.term, c.vote = c.term+r.Intn(3), r.Intn(8)-1
				check(t, "SetState", l.SetState(c.term, c.vote), api.OK)
			} else {
				c = c.with(from, entries)
				check(t, "Put", l.Put(from, entries), api.OK)
			}
			if got := said(l); !got.equal(c) || l.Last() != len(c.entries) {
				t.Fatalf("seed %d, call %d: %.500v, not %.500v", seed, i, got, c)
			}
			if i%10 == 0 {
				holds(t, fmt.Sprintf("seed %d, call %d", seed, i), d, l, c)
				l = reopened(t, d)
			}
		}
	}
}

// TestP11_1Room: with 74 blocks and twice as many more as there are entries, room is never wanting.
func TestP11_1Room(t *testing.T) {
	for _, n := range []int{0, 1, 2, 5, 30, 31, 100, 163, 400} {
		d := random(t, 74+2*n)
		l := opened(t, d)
		c := empty.with(1, great("x", n))
		check(t, fmt.Sprint(n, " entries"), l.Put(1, c.entries), api.OK)
		c.term, c.vote = math.MaxInt, 6
		check(t, fmt.Sprint(n, " entries and a state"), l.SetState(c.term, c.vote), api.OK)
		holds(t, fmt.Sprint(n, " entries"), d, l, c)
		c = c.with(1+n/2, great("y", n-n/2))
		check(t, fmt.Sprint(n, " entries, half of them anew"), l.Put(1+n/2, c.entries[n/2:]), api.OK)
		holds(t, fmt.Sprint(n, " entries, half of them anew"), d, l, c)
		check(t, fmt.Sprint(n, " entries gone"), l.Put(1, nil), api.OK)
		holds(t, fmt.Sprint(n, " entries gone"), d, l, c.with(1, nil))
	}
}

// partly tells whether a Put of new that didn't end may have left a log with got: some of the old entries from number from on are left, or some of the new ones are there.
func partly(old []api.Entry, from int, new, got []api.Entry) bool {
	k := len(got)
	if k < from-1 {
		return false
	}
	both := slices.Concat(old[:from-1], new)
	return k <= len(old) && slices.Equal(got, old[:k]) || k <= len(both) && slices.Equal(got, both[:k])
}

// TestP11_2Full: where room is wanting, the log is as said, and the same when it is opened anew; a state that has no room changes nothing.
func TestP11_2Full(t *testing.T) {
	for _, blocks := range []int{70, 71, 90} {
		d := random(t, blocks)
		l := opened(t, d)
		c, errs, shrunk := empty, 0, 0
		r := rand.New(rand.NewSource(int64(blocks)))
		for range 200 {
			from := 1 + r.Intn(len(c.entries)+1)
			entries := slices.Concat(some(r, 3), great("x", r.Intn(40)))
			e := l.Put(from, entries)
			got := said(l).entries
			switch {
			case e == api.OK && slices.Equal(got, c.with(from, entries).entries):
			case e == api.ErrSpace && partly(c.entries, from, entries, got):
				errs++
				if len(got) >= from && slices.Equal(got, c.with(from, entries).entries[:len(got)]) {
					shrunk++
				}
			default:
				t.Fatalf("%d blocks, Put(%d, %d entries) of %d: %d, %d entries", blocks, from, len(entries), len(c.entries), e, len(got))
			}
			c.entries = got
			holds(t, "a Put", d, l, c)
		}
		if errs < 9 || shrunk < 3 {
			t.Errorf("%d blocks: ErrSpace %d times, %d times in between", blocks, errs, shrunk)
		}
		e := api.OK
		for _, one := range []api.Entry{great("x", 1)[0], {}} {
			for e = api.OK; e == api.OK; {
				e = l.Put(l.Last()+1, []api.Entry{one})
			}
		}
		c, was := said(l), d.Image()
		check(t, "a state without room", []any{e, l.SetState(math.MaxInt, 3)}, []any{api.ErrSpace, api.ErrSpace})
		check(t, "Try of one", l.Try(1, nil, math.MaxInt, 3), api.ErrSpace)
		holds(t, "a state without room", d, l, c)
		if !bytes.Equal(d.Image(), was) {
			t.Errorf("%d blocks: a state without room has changed something", blocks)
		}
	}
}

// crashes are what may happen to n waiting writes.
func crashes(r *rand.Rand, n int) [][3]int {
	l := [][3]int{{0, -1, 0}, {-1, -1, 0}}
	for range min(n, 6) {
		l = append(l, [3]int{r.Int(), r.Intn(n), r.Intn(9)})
	}
	return l
}

// cut lets the power go out in f at each call of the disk in turn, and crashes it in some ways; at last, when f ends, it is done.
func cut(t *testing.T, r *rand.Rand, image []byte, f func(d *disk.Disk) api.Errno, then func(d *disk.Disk, e api.Errno)) {
	t.Helper()
	for arm := 0; ; arm++ {
		d := load(t, image)
		d.Arm(arm)
		e := f(d)
		if e != api.ErrPower {
			d.Arm(-1)
			then(d, e)
			return
		}
		for _, c := range crashes(r, d.Pending()) {
			d := load(t, image)
			d.Arm(arm)
			f(d)
			d.Crash(uint64(c[0]), c[1], c[2])
			then(d, e)
		}
	}
}

// TestP11_2EachCut cuts a Try at each call of the disk, and the recovery behind it again.
func TestP11_2EachCut(t *testing.T) {
	r := rand.New(rand.NewSource(111))
	was := content{5, 2, row("x", 9)}
	for _, c := range []struct {
		what    string
		old     content
		from    int
		entries []api.Entry
		term    int
	}{
		{"the first entries", empty, 1, row("y", 3), 1},
		{"one behind", was, 10, row("y", 1), 5},
		{"some behind, and a term", was, 10, row("y", 6), 6},
		{"others, more", was, 4, row("y", 12), 6},
		{"others, fewer", was, 3, great("y", 2), 6},
		{"others, as many, in the same term", was, 1, row("y", 9), 5},
		{"the last one anew", was, 9, row("y", 1), 5},
		{"all go", was, 1, nil, 5},
		{"a term alone", was, 10, nil, 8},
		{"great ones", content{1, 0, great("x", 6)}, 2, great("y", 6), 2},
	} {
		image := filled(t, 100, c.old)
		start := said(reopened(t, load(t, image)))
		state := content{c.term, 4, start.entries}
		seen := map[string]int{}
		cut(t, r, image, func(d *disk.Disk) api.Errno { return reopened(t, d).Try(c.from, c.entries, c.term, 4) }, func(d *disk.Disk, e api.Errno) {
			broken := d.Image()
			l := reopened(t, d)
			got := said(l)
			seen[fmt.Sprint(got)]++
			holds(t, c.what, d, l, got)
			switch {
			case e != api.ErrPower && (e != api.OK || !got.equal(state.with(c.from, c.entries))):
				t.Fatalf("%s: %d, and %.600v", c.what, e, got)
			case got.equal(start):
			case got.term != c.term || got.vote != 4 || !partly(start.entries, c.from, c.entries, got.entries):
				t.Fatalf("%s: behind a crash %.600v", c.what, got)
			}
			if r.Intn(8) == 0 {
				cut(t, r, broken, recovered, func(d *disk.Disk, _ api.Errno) { holds(t, c.what+", cut in Recover", d, reopened(t, d), got) })
			}
		})
		if len(seen) < 2 || seen[fmt.Sprint(start)] == 0 {
			t.Errorf("%s: %d unlike contents", c.what, len(seen))
		}
	}
}

func recovered(d *disk.Disk) api.Errno {
	_, e := store.Recover(d)
	return e
}

// voted is a term and a vote.
type voted struct{ term, vote int }

// TestP11_2Calls cuts SetState alone, and Put alone.
func TestP11_2Calls(t *testing.T) {
	r := rand.New(rand.NewSource(112))
	was := content{5, 2, row("x", 5)}
	image := filled(t, 80, was)
	seen := map[voted]int{}
	cut(t, r, image, guarded(t, func(l *Log) api.Errno { return l.SetState(9, 6) }), func(d *disk.Disk, e api.Errno) {
		l := reopened(t, d)
		term, vote := l.State()
		seen[voted{term, vote}]++
		holds(t, "SetState", d, l, content{term, vote, was.entries})
		if e == api.OK {
			check(t, "SetState", []int{term, vote}, []int{9, 6})
		}
	})
	if len(seen) != 2 || seen[voted{5, 2}] == 0 || seen[voted{9, 6}] == 0 {
		t.Errorf("SetState: %v", seen)
	}
	cut(t, r, image, guarded(t, func(l *Log) api.Errno { return l.Put(3, row("y", 5)) }), func(d *disk.Disk, e api.Errno) {
		l := reopened(t, d)
		got := said(l)
		holds(t, "Put", d, l, content{5, 2, got.entries})
		if !partly(was.entries, 3, row("y", 5), got.entries) || e == api.OK && !got.equal(was.with(3, row("y", 5))) {
			t.Fatalf("Put: %d, %v", e, got)
		}
	})
}

// guarded answers ErrPower, if the power goes out in f.
func guarded(t *testing.T, f func(l *Log) api.Errno) func(d *disk.Disk) api.Errno {
	return func(d *disk.Disk) (e api.Errno) {
		l := reopened(t, d)
		if powerOut(func() { e = f(l) }) {
			return api.ErrPower
		}
		return e
	}
}

// powerOut tells whether f panics with just PowerOut{}.
func powerOut(f func()) (out bool) {
	defer func() { out = recover() == any(disk.PowerOut{}) }()
	f()
	return
}

// TestP11_2Rows: rows of Trys with power failures in them and in Recover, on disks great and small.
func TestP11_2Rows(t *testing.T) {
	for seed := range 40 {
		r := rand.New(rand.NewSource(int64(seed)))
		d := random(t, 70+seed%2*200)
		l := opened(t, d)
		c := empty
		for i := range 60 {
			from, term := 1+r.Intn(len(c.entries)+1), c.term+r.Intn(2)
			entries := some(r, 10)
			if r.Intn(3) > 0 {
				d.Arm(r.Intn(150))
			}
			e := l.Try(from, entries, term, r.Intn(7))
			if e == api.ErrPower {
				l = back(t, r, d)
			}
			d.Arm(-1)
			got := said(l)
			switch {
			case e == api.OK && slices.Equal(got.entries, c.with(from, entries).entries) && got.term == term:
			case (e == api.ErrPower || e == api.ErrSpace && d.Blocks() == 70) && got.equal(c):
			case e != api.ErrPower && (e != api.ErrSpace || d.Blocks() > 70), got.term != term, !partly(c.entries, from, entries, got.entries):
				t.Fatalf("seed %d, Try %d: %d, %.600v behind %.600v", seed, i, e, got, c)
			}
			c = got
			holds(t, fmt.Sprintf("seed %d, Try %d", seed, i), d, l, c)
		}
	}
}

// back crashes a disk, and opens the log again, in spite of power failures in Recover.
func back(t *testing.T, r *rand.Rand, d *disk.Disk) *Log {
	t.Helper()
	for {
		d.Crash(r.Uint64(), r.Intn(30)-1, r.Intn(10))
		d.Arm(r.Intn(60) - 20)
		s, e := store.Recover(d)
		if e == api.ErrPower {
			continue
		}
		l, f := Open(s)
		check(t, "back", []any{e, f}, []any{api.OK, api.OK})
		return l
	}
}

// TestP11_2Panic: PowerOut goes out of SetState and Put, and of no other call; Try answers ErrPower.
func TestP11_2Panic(t *testing.T) {
	was := content{5, 2, row("x", 5)}
	d := load(t, filled(t, 80, was))
	for what, f := range map[string]func(l *Log){
		"SetState":    func(l *Log) { l.SetState(6, 1) },
		"Put":         func(l *Log) { l.Put(3, row("y", 2)) },
		"Put of none": func(l *Log) { l.Put(3, nil) },
		"Put of one":  func(l *Log) { l.Put(6, row("y", 1)) },
		"Try (ErrPower)": func(l *Log) {
			if l.Try(2, nil, 6, 1) == api.ErrPower {
				panic(disk.PowerOut{})
			}
		},
	} {
		l := reopened(t, d)
		d.Arm(0)
		check(t, what, powerOut(func() { f(l) }), true)
		d.Crash(0, -1, 0)
		holds(t, "behind "+what, d, reopened(t, d), was)
	}
	s, _ := store.Open(d)
	d.Arm(0)
	var l *Log
	check(t, "looking", powerOut(func() { l, _ = Open(s); said(l); l.Last(); Check(api.Entry{}) }), false)
	check(t, "errors", powerOut(func() {
		check(t, "Put", l.Put(0, nil), api.ErrArg)
		check(t, "SetState", l.SetState(4, 0), api.ErrOld)
		check(t, "Try", l.Try(7, nil, 5, 7), api.ErrArg)
	}), false)
	d.Crash(0, -1, 0)
	holds(t, "at last", d, l, was)
}

func TestP11_3(t *testing.T) {
	d := random(t, 80)
	l := opened(t, d)
	all := row("x", 6)
	was := slices.Clone(all)
	for n := range 4 {
		l.Put(1, all[:n])
		l.Try(2, all[:n], n, -1)
		Check(all[n])
	}
	check(t, "what was handed in, and the room behind it", all, was)
	c := content{3, -1, slices.Concat(was[:1], was[:3])}
	holds(t, "Put and Try", d, l, c)
	clear(all)
	holds(t, "behind a change of what was handed in", d, l, c)
	first, second := l.Entries(), l.Entries()
	clear(first[:cap(first)])
	check(t, "another answer", second, c.entries)
	holds(t, "behind a change of an answer", d, l, c)
}

// TestUnopened: the calls of a Log that nobody opened, or of a store that nobody opened, end.
func TestUnopened(t *testing.T) {
	l, e := Open(&store.Store{})
	check(t, "Open", e, api.OK)
	for _, l := range []*Log{{}, l} {
		check(t, "what it says", said(l), empty)
		check(t, "Last", l.Last(), 0)
		check(t, "SetState", []any{l.SetState(1, 7), l.SetState(1, 1)}, []any{api.ErrArg, api.ErrForm})
		check(t, "Put", []any{l.Put(2, nil), l.Put(1, row("x", 1)), l.Put(1, nil)}, []any{api.ErrArg, api.ErrForm, api.OK})
		check(t, "Try", l.Try(1, nil, 1, 1), api.ErrForm)
	}
}

// TestSpoilt: when somebody else writes into the store behind Open, no call panics.
func TestSpoilt(t *testing.T) {
	r := rand.New(rand.NewSource(113))
	d := random(t, 100)
	s := made(t, d)
	l, _ := Open(s)
	l.Put(1, row("x", 9))
	for range 500 {
		p := api.Pair{Key: []string{entryKey(r.Intn(12)), stateKey, "e", "f"}[r.Intn(4)], Val: []string{"", ":", "x:y", "-1:-9", "1", "99999999999999999999:3"}[r.Intn(6)], Gone: r.Intn(3) == 0}
		s.Apply([]api.Pair{p})
		said(l)
		l.Try(r.Intn(l.Last()+2), some(r, 3), r.Intn(3), r.Intn(4))
		Open(s)
	}
}

package pager

import (
	"fmt"
	"maps"
	"math"
	"math/rand"
	"slices"
	"testing"

	"parley/api"
)

func check(t *testing.T, what string, got, want any) {
	t.Helper()
	if g, w := fmt.Sprint(got), fmt.Sprint(want); g != w {
		t.Errorf("%s: %.300s, not %.300s", what, g, w)
	}
}

func sameAct(a, b Act) bool {
	return a.Errno == b.Errno && a.Hit == b.Hit && a.Out == b.Out && slices.Equal(a.Wrote, b.Wrote)
}

func sameActs(a, b []Act) bool {
	return slices.EqualFunc(a, b, sameAct)
}

// of writes a call's answer in which nothing else is named.
func of(e api.Errno) Act {
	return Act{Errno: e, Out: -1}
}

func hit() Act {
	return Act{Hit: true, Out: -1}
}

func out(page int, wrote ...int) Act {
	return Act{Out: page, Wrote: wrote}
}

func wrote(pages ...int) Act {
	return Act{Out: -1, Wrote: pages}
}

// step is a call with what it must answer.
type step struct {
	op   Op
	want Act
}

func pin(page int, want Act) step   { return step{Op{Pin, page}, want} }
func unpin(page int, want Act) step { return step{Op{Unpin, page}, want} }
func dirty(page int, want Act) step { return step{Op{Dirty, page}, want} }
func flush(want Act) step           { return step{Op{Flush, 0}, want} }

// play holds the answers of Play, and of Do one by one, against what the steps say.
func play(t *testing.T, what string, room int, steps []step, pages ...int) {
	t.Helper()
	var ops []Op
	p, e := New(room)
	check(t, what+": New", e, api.OK)
	for i, s := range steps {
		ops = append(ops, s.op)
		if a := p.Do(s.op); !sameAct(a, s.want) {
			t.Errorf("%s: Do number %d, %v: %v, not %v", what, i, s.op, a, s.want)
		}
	}
	check(t, what+": Pages", p.Pages(), pages)
	acts, at := Play(room, ops)
	check(t, what+": how many Play answers", len(acts), len(ops))
	for i, a := range acts {
		if !sameAct(a, steps[i].want) {
			t.Errorf("%s: Play, number %d, %v: %v, not %v", what, i, ops[i], a, steps[i].want)
		}
	}
	check(t, what+": Play's pages", at, pages)
}

func TestKinds(t *testing.T) {
	check(t, "the constants", []int{Pin, Unpin, Dirty, Flush, MaxPages}, []int{1, 2, 3, 4, 64})
}

func TestP7_1Example(t *testing.T) {
	ok := of(api.OK)
	play(t, "the document's", 2, []step{
		pin(5, ok), pin(6, ok), unpin(5, ok), dirty(6, ok), pin(7, out(5)), unpin(6, ok), pin(8, out(6, 6)), pin(9, of(api.ErrSpace)),
		dirty(9, of(api.ErrAbsent)), unpin(7, ok), unpin(7, of(api.ErrForm)),
	}, 7, 8)
}

func TestP7_1Rows(t *testing.T) {
	ok := of(api.OK)
	for what, c := range map[string]struct {
		room  int
		steps []step
		pages []int
	}{
		"nothing":                                    {1, nil, nil},
		"a page 0 and a greatest one":                {2, []step{pin(0, ok), pin(math.MaxInt, ok), pin(0, hit())}, []int{math.MaxInt, 0}},
		"a hit is the last one pinned":               {3, []step{pin(1, ok), pin(2, ok), pin(3, ok), pin(1, hit()), pin(1, hit()), pin(2, hit())}, []int{3, 1, 2}},
		"a hit with all pinned and no room":          {1, []step{pin(1, ok), pin(1, hit()), pin(2, of(api.ErrSpace)), pin(1, hit())}, []int{1}},
		"unpinned as often as pinned":                {1, []step{pin(1, ok), pin(1, hit()), unpin(1, ok), pin(2, of(api.ErrSpace)), unpin(1, ok), unpin(1, of(api.ErrForm)), pin(2, out(1))}, []int{2}},
		"unpinned, it keeps its place":               {3, []step{pin(1, ok), pin(2, ok), pin(3, ok), unpin(3, ok), unpin(1, ok), unpin(2, ok), pin(4, out(1)), pin(5, out(2)), pin(6, out(3))}, []int{4, 5, 6}},
		"turned, it keeps its place":                 {3, []step{pin(1, ok), pin(2, ok), pin(3, ok), dirty(1, ok), unpin(1, ok), unpin(2, ok), pin(4, out(1, 1))}, []int{2, 3, 4}},
		"the first that isn't pinned goes":           {3, []step{pin(1, ok), pin(2, ok), pin(3, ok), unpin(3, ok), pin(4, out(3)), unpin(2, ok), unpin(4, ok), pin(5, out(2))}, []int{1, 4, 5}},
		"the greater number goes, if it is first":    {2, []step{pin(9, ok), pin(1, ok), unpin(9, ok), unpin(1, ok), pin(5, out(9))}, []int{1, 5}},
		"pinned again, another one goes":             {2, []step{pin(1, ok), pin(2, ok), unpin(1, ok), unpin(2, ok), pin(1, hit()), unpin(1, ok), pin(3, out(2))}, []int{1, 3}},
		"at hand though nobody has it pinned":        {2, []step{pin(1, ok), unpin(1, ok), dirty(1, of(api.ErrForm)), unpin(1, of(api.ErrForm)), pin(1, hit()), dirty(1, ok)}, []int{1}},
		"back, it is a new one":                      {1, []step{pin(1, ok), pin(1, hit()), dirty(1, ok), unpin(1, ok), unpin(1, ok), pin(2, out(1, 1)), unpin(2, ok), pin(1, out(2)), unpin(1, ok), unpin(1, of(api.ErrForm)), pin(2, out(1))}, []int{2}},
		"gone, it is absent":                         {1, []step{pin(1, ok), unpin(1, ok), pin(2, out(1)), unpin(1, of(api.ErrAbsent)), dirty(1, of(api.ErrAbsent)), flush(ok)}, []int{2}},
		"refused, it isn't at hand":                  {1, []step{pin(1, ok), dirty(1, ok), pin(2, of(api.ErrSpace)), unpin(2, of(api.ErrAbsent)), dirty(2, of(api.ErrAbsent)), flush(wrote(1))}, []int{1}},
		"written in a flush, then no more":           {1, []step{pin(1, ok), dirty(1, ok), flush(wrote(1)), flush(ok), unpin(1, ok), pin(2, out(1))}, []int{2}},
		"turned twice, written once":                 {1, []step{pin(1, ok), dirty(1, ok), dirty(1, ok), flush(wrote(1)), flush(ok)}, []int{1}},
		"turned again behind a flush":                {1, []step{pin(1, ok), dirty(1, ok), flush(wrote(1)), dirty(1, ok), unpin(1, ok), pin(2, out(1, 1)), flush(ok)}, []int{2}},
		"turned, unpinned and pinned: still turned":  {1, []step{pin(1, ok), dirty(1, ok), unpin(1, ok), pin(1, hit()), flush(wrote(1))}, []int{1}},
		"a flush writes the pinned and the others":   {3, []step{pin(1, ok), pin(2, ok), pin(3, ok), dirty(3, ok), dirty(1, ok), unpin(1, ok), flush(wrote(1, 3))}, []int{1, 2, 3}},
		"a flush's pages rise, whatever their order": {4, []step{pin(30, ok), pin(4, ok), pin(100, ok), pin(5, ok), dirty(100, ok), dirty(30, ok), dirty(5, ok), dirty(4, ok), pin(4, hit()), flush(wrote(4, 5, 30, 100))}, []int{30, 100, 5, 4}},
		"a flush pins and unpins nothing":            {1, []step{pin(1, ok), dirty(1, ok), flush(wrote(1)), pin(2, of(api.ErrSpace)), unpin(1, ok), flush(ok), unpin(1, of(api.ErrForm))}, []int{1}},
		"a flush of none":                            {1, []step{flush(ok), pin(1, ok), flush(ok)}, []int{1}},
		"absent from the first on":                   {1, []step{unpin(0, of(api.ErrAbsent)), dirty(0, of(api.ErrAbsent))}, nil},
	} {
		play(t, what, c.room, c.steps, c.pages...)
	}
}

func TestP7_1WrongCalls(t *testing.T) {
	var steps []step
	for _, page := range []int{math.MinInt, -2, -1} {
		for _, kind := range []int{Pin, Unpin, Dirty, 0, 5, -1, math.MinInt, math.MaxInt} {
			steps = append(steps, step{Op{kind, page}, of(api.ErrArg)})
		}
		steps = append(steps, step{Op{Flush, page}, of(api.OK)})
	}
	for _, kind := range []int{0, 5, 6, -1, -2, math.MinInt, math.MaxInt} {
		for _, page := range []int{0, 1, 2, math.MaxInt} {
			steps = append(steps, step{Op{kind, page}, of(api.ErrArg)})
		}
	}
	play(t, "wrong calls of an empty pager", 2, steps)
	before := []step{pin(1, of(api.OK)), pin(2, of(api.OK)), dirty(1, of(api.OK))}
	after := []step{pin(3, of(api.ErrSpace)), unpin(2, of(api.OK)), step{Op{Flush, -7}, wrote(1)}, pin(3, out(2))}
	for i := range steps {
		if steps[i].op.Kind == Flush { // it would write
			steps[i] = pin(-1, of(api.ErrArg))
		}
	}
	play(t, "wrong calls of a full one", 2, slices.Concat(before, steps, after), 1, 3)
}

// TestP7_1NothingChanges: a call that answers an error leaves the pager as it was, as all that can be asked of it shows.
func TestP7_1NothingChanges(t *testing.T) {
	r := rand.New(rand.NewSource(71))
	for range 300 {
		room := 1 + r.Intn(5)
		ops := randomOps(r, 40, 7)
		acts, pages := Play(room, ops)
		var good []Op
		var want []Act
		for i, a := range acts {
			if a.Errno == api.OK {
				good = append(good, ops[i])
				want = append(want, a)
			}
		}
		got, at := Play(room, good)
		if !sameActs(got, want) || !slices.Equal(at, pages) {
			t.Fatalf("room %d, %v: without what was refused %v, %v; not %v, %v", room, ops, got, at, want, pages)
		}
	}
}

func TestP7_1Rooms(t *testing.T) {
	for _, room := range []int{math.MinInt, -64, -1, 0, 65, 66, 128, math.MaxInt} {
		if p, e := New(room); p != nil || e != api.ErrArg {
			t.Errorf("New(%d): %v, %d", room, p, e)
		}
		acts, pages := Play(room, []Op{{Pin, 1}, {Flush, 0}, {0, 0}})
		if len(acts) != 0 || len(pages) != 0 {
			t.Errorf("Play with room %d: %v, %v", room, acts, pages)
		}
	}
	for room := 1; room <= 64; room++ {
		p, e := New(room)
		if p == nil || e != api.OK || len(p.Pages()) != 0 {
			t.Fatalf("New(%d): %d", room, e)
		}
		var want []int
		for i := range room {
			if a := p.Do(Op{Pin, 100 - i}); !sameAct(a, of(api.OK)) {
				t.Fatalf("room %d: page number %d: %v", room, i, a)
			}
			want = append(want, 100-i)
		}
		if a := p.Do(Op{Pin, 7}); !sameAct(a, of(api.ErrSpace)) {
			t.Fatalf("room %d: one more: %v", room, a)
		}
		check(t, fmt.Sprint("the pages of room ", room), p.Pages(), want)
	}
}

func TestP7_1PinnedOften(t *testing.T) {
	p, _ := New(1)
	const often = 100000
	for i := range often {
		if a := p.Do(Op{Pin, 3}); a.Errno != api.OK || a.Hit != (i > 0) {
			t.Fatalf("Pin number %d: %v", i, a)
		}
	}
	for i := range often {
		if a := p.Do(Op{Pin, 4}); a.Errno != api.ErrSpace {
			t.Fatalf("pinned %d times: %v", often-i, a)
		}
		if a := p.Do(Op{Unpin, 3}); !sameAct(a, of(api.OK)) {
			t.Fatalf("Unpin number %d: %v", i, a)
		}
	}
	check(t, "Unpin once too often", p.Do(Op{Unpin, 3}), of(api.ErrForm))
	check(t, "Pin then", p.Do(Op{Pin, 4}), out(3))
}

// model keeps for each page at hand when it was last pinned, how many times it is, and whether it has been turned.
type model struct {
	room, now int
	when      map[int]int
	pins      map[int]int
	turned    map[int]bool
}

func newModel(room int) *model {
	return &model{room: room, when: map[int]int{}, pins: map[int]int{}, turned: map[int]bool{}}
}

func (m *model) pages() []int {
	return slices.SortedFunc(maps.Keys(m.when), func(a, b int) int { return m.when[a] - m.when[b] })
}

func (m *model) do(op Op) Act {
	m.now++
	_, here := m.when[op.Page]
	switch {
	case op.Kind == Flush:
		l := slices.Sorted(maps.Keys(m.turned))
		clear(m.turned)
		return wrote(l...)
	case op.Page < 0 || op.Kind < Pin || op.Kind > Flush:
		return of(api.ErrArg)
	case op.Kind == Pin && here:
		m.pins[op.Page]++
		m.when[op.Page] = m.now
		return hit()
	case op.Kind == Pin && len(m.when) < m.room:
		m.pins[op.Page], m.when[op.Page] = 1, m.now
		return of(api.OK)
	case op.Kind == Pin:
		return m.swap(op.Page)
	case !here:
		return of(api.ErrAbsent)
	case m.pins[op.Page] == 0:
		return of(api.ErrForm)
	case op.Kind == Unpin:
		m.pins[op.Page]--
	default:
		m.turned[op.Page] = true
	}
	return of(api.OK)
}

func (m *model) swap(page int) Act {
	for _, old := range m.pages() {
		if m.pins[old] > 0 {
			continue
		}
		a := out(old)
		if m.turned[old] {
			a = out(old, old)
		}
		delete(m.when, old)
		delete(m.pins, old)
		delete(m.turned, old)
		m.pins[page], m.when[page] = 1, m.now
		return a
	}
	return of(api.ErrSpace)
}

// compare does the ops on a pager and on the model, and looks at both behind each.
func compare(t *testing.T, room int, ops []Op) {
	t.Helper()
	p, _ := New(room)
	m := newModel(room)
	for i, op := range ops {
		a, want := p.Do(op), m.do(op)
		if !sameAct(a, want) || !slices.Equal(p.Pages(), m.pages()) {
			t.Fatalf("room %d, %v, number %d: %v, pages %v; not %v, %v", room, ops, i, a, p.Pages(), want, m.pages())
		}
	}
}

// TestP7_1AllShortRows goes through all rows of a few calls of a few pages.
func TestP7_1AllShortRows(t *testing.T) {
	for _, c := range []struct{ room, pages, long int }{{1, 2, 6}, {2, 3, 5}, {3, 4, 4}} {
		l := []Op{{Flush, 0}}
		for page := range c.pages {
			l = append(l, Op{Pin, page}, Op{Unpin, page}, Op{Dirty, page})
		}
		row := make([]Op, c.long)
		var fill func(i int)
		fill = func(i int) {
			if i == c.long {
				compare(t, c.room, row)
				return
			}
			for _, op := range l {
				row[i] = op
				fill(i + 1)
			}
		}
		fill(0)
	}
}

// randomOps has mostly calls that are in order: pages that are pinned are mostly unpinned again.
func randomOps(r *rand.Rand, n, pages int) []Op {
	var ops []Op
	var pinned []int
	for len(ops) < n {
		page := r.Intn(pages)
		if len(pinned) > 0 && r.Intn(3) > 0 {
			page = pinned[r.Intn(len(pinned))]
		}
		switch x := r.Intn(20); {
		case x < 8:
			ops = append(ops, Op{Pin, page})
			pinned = append(pinned, page)
		case x < 14:
			ops = append(ops, Op{Unpin, page})
			if i := slices.Index(pinned, page); i >= 0 {
				pinned = slices.Delete(pinned, i, i+1)
			}
		case x < 18:
			ops = append(ops, Op{Dirty, page})
		case x < 19:
			ops = append(ops, Op{Flush, page - 2})
		default:
			ops = append(ops, Op{r.Intn(9) - 2, page - 1})
		}
	}
	return ops
}

func TestP7_1Random(t *testing.T) {
	r := rand.New(rand.NewSource(72))
	for i := range 400 {
		room := 1 + r.Intn(8)
		if i%8 == 0 {
			room = 1 + r.Intn(64)
		}
		ops := randomOps(r, 30*room, 1+r.Intn(3*room))
		compare(t, room, ops)
		acts, pages := Play(room, ops)
		m := newModel(room)
		var want []Act
		for _, op := range ops {
			want = append(want, m.do(op))
		}
		if !sameActs(acts, want) || !slices.Equal(pages, m.pages()) {
			t.Fatalf("Play(%d, %v): %v, %v", room, ops, acts, pages)
		}
	}
}

// ledger holds P7.2 from the answers alone: what came, what went, what is pinned, what is still to be written.
type ledger struct {
	room    int
	here    map[int]bool
	pins    map[int]int
	unsaved map[int]bool
}

func (l *ledger) enter(op Op, a Act) string {
	if a.Errno != api.OK {
		return ""
	}
	for _, page := range a.Wrote {
		if !l.unsaved[page] {
			return "written back, though it wasn't turned, or twice"
		}
		delete(l.unsaved, page)
	}
	if a.Out >= 0 {
		switch {
		case !l.here[a.Out]:
			return "a page goes out that isn't at hand"
		case l.pins[a.Out] > 0:
			return "a pinned page goes out"
		case l.unsaved[a.Out]:
			return "a page goes out that was turned, and isn't written back"
		}
		delete(l.here, a.Out)
	}
	switch op.Kind {
	case Pin:
		if a.Hit != l.here[op.Page] {
			return "Hit isn't whether it was at hand"
		}
		l.here[op.Page] = true
		l.pins[op.Page]++
	case Unpin:
		l.pins[op.Page]--
	case Dirty:
		l.unsaved[op.Page] = true
	case Flush:
		if len(l.unsaved) > 0 {
			return "a flush that leaves a page"
		}
	}
	if len(l.here) > l.room {
		return "more pages than there is room"
	}
	return ""
}

func TestP7_2(t *testing.T) {
	r := rand.New(rand.NewSource(73))
	for range 300 {
		room := 1 + r.Intn(6)
		p, _ := New(room)
		l := &ledger{room, map[int]bool{}, map[int]int{}, map[int]bool{}}
		for _, op := range randomOps(r, 200, 3*room) {
			a := p.Do(op)
			if wrong := l.enter(op, a); wrong != "" {
				t.Fatalf("room %d, %v: %v: %s", room, op, a, wrong)
			}
			at := p.Pages()
			slices.Sort(at)
			if !slices.Equal(at, slices.Sorted(maps.Keys(l.here))) { // as many, none twice
				t.Fatalf("room %d, %v: %v: pages %v", room, op, a, at)
			}
		}
	}
}

// TestP7_1Alone: pagers have nothing in common, whoever else is asked in between.
func TestP7_1Alone(t *testing.T) {
	r := rand.New(rand.NewSource(74))
	var pagers []*Pager
	var rows [][]Op
	var acts [5][]Act
	for i := range acts {
		p, _ := New(2 + i)
		pagers = append(pagers, p)
		rows = append(rows, randomOps(r, 100, 12))
	}
	for n := range 100 {
		for i, p := range pagers {
			acts[i] = append(acts[i], p.Do(rows[i][n]))
		}
	}
	for i, p := range pagers {
		want, pages := Play(2+i, rows[i])
		if !sameActs(acts[i], want) || !slices.Equal(p.Pages(), pages) {
			t.Errorf("a pager among others, room %d: %v, %v; not %v, %v", 2+i, acts[i], p.Pages(), want, pages)
		}
	}
}

// spoil turns all of a list, and the room behind it.
func spoil(l []int) {
	l = l[:cap(l)]
	for i := range l {
		l[i] = -99
	}
}

func TestP7_3NewMemory(t *testing.T) {
	r := rand.New(rand.NewSource(75))
	for range 100 {
		room := 1 + r.Intn(6)
		ops := randomOps(r, 100, 3*room)
		was := slices.Clone(ops)
		want, pages := Play(room, ops)
		p, _ := New(room)
		for i, op := range ops {
			a := p.Do(op)
			if !sameAct(a, want[i]) {
				t.Fatalf("room %d, number %d: %v, not %v, when earlier answers are spoilt", room, i, a, want[i])
			}
			spoil(a.Wrote)
			spoil(p.Pages())
		}
		check(t, "the pages", p.Pages(), pages)
		check(t, "what was handed in", ops, was)
		acts, again := Play(room, ops)
		for i := range acts { // one answer's lists among themselves
			if !slices.Equal(acts[i].Wrote, want[i].Wrote) {
				t.Fatalf("room %d, number %d: %v, not %v, when its neighbours are spoilt", room, i, acts[i], want[i])
			}
			spoil(acts[i].Wrote)
		}
		check(t, "the pages, when the Acts are spoilt", again, pages)
		spoil(again)
		if third, _ := Play(room, ops); !sameActs(third, want) {
			t.Fatalf("room %d: another Play answers otherwise, when the one before is spoilt", room)
		}
	}
}

func TestP7_3HandedIn(t *testing.T) {
	all := []Op{{Pin, 1}, {Dirty, 1}, {Flush, 0}, {Unpin, 1}, {8, 8}, {9, 9}}
	was := slices.Clone(all)
	acts, pages := Play(1, all[:4])
	check(t, "the ops, and what stands behind them", all, was)
	for i := range all {
		all[i] = Op{Pin, 5}
	}
	check(t, "what Play answered, when the ops are spoilt", acts, []Act{of(api.OK), of(api.OK), wrote(1), of(api.OK)})
	check(t, "the pages then", pages, []int{1})
}

package alloc

import (
	"bytes"
	"fmt"
	"math"
	"math/rand"
	"slices"
	"testing"

	"parley/api"
)

// mapOf is the map of such a row of blocks, true where one is in use.
func mapOf(row []bool) Map {
	b := make([]byte, (len(row)+7)/8)
	for i, used := range row {
		if used {
			b[i/8] |= 1 << (i % 8)
		}
	}
	return Map{len(row), b}
}

// example is the document's: of 10 blocks 0, 1 and 4 are in use.
func example() Map {
	return Map{10, []byte{0x13, 0}}
}

func randomRow(r *rand.Rand, total int) []bool {
	row := make([]bool, total)
	thick := 1 + r.Intn(9)
	used := false
	for i := range row {
		if r.Intn(10) < thick { // thin ones have long runs
			used = r.Intn(2) == 0
		}
		row[i] = used
	}
	return row
}

// rows are all rows of up to 9 blocks, and some of each kind of length above.
func rows() [][]bool {
	var l [][]bool
	for total := range 10 {
		for x := range 1 << total {
			row := make([]bool, total)
			for i := range row {
				row[i] = x>>i&1 == 1
			}
			l = append(l, row)
		}
	}
	r := rand.New(rand.NewSource(61))
	for _, total := range []int{10, 15, 16, 17, 63, 64, 65, 100, 2040, 2041, 2047, 2048} {
		l = append(l, make([]bool, total), slices.Repeat([]bool{true}, total))
		for range 12 {
			l = append(l, randomRow(r, total))
		}
	}
	return l
}

func same(a, b Map) bool {
	return a.Total == b.Total && bytes.Equal(a.Bits, b.Bits)
}

func empty(m Map) bool {
	return m.Total == 0 && len(m.Bits) == 0
}

func check(t *testing.T, what string, got, want any) {
	t.Helper()
	if g, w := fmt.Sprint(got), fmt.Sprint(want); g != w {
		t.Errorf("%s: %.300s, not %.300s", what, g, w)
	}
}

// free are the blocks of a row that aren't in use.
func free(row []bool) []int {
	var l []int
	for i, used := range row {
		if !used {
			l = append(l, i)
		}
	}
	return l
}

// runs goes from each block that isn't in use, and has none ahead that isn't, as far as it can.
func runs(row []bool) [][2]int {
	var l [][2]int
	for i := range row {
		n := 0
		for i+n < len(row) && !row[i+n] {
			n++
		}
		if n > 0 && (i == 0 || row[i-1]) {
			l = append(l, [2]int{i, n})
		}
	}
	return l
}

func TestP6_1New(t *testing.T) {
	for _, total := range []int{0, 1, 7, 8, 9, 10, 2040, 2041, 2047, 2048} {
		m, e := New(total)
		if e != api.OK || m.Total != total || !bytes.Equal(m.Bits, make([]byte, (total+7)/8)) {
			t.Errorf("New(%d): %v, %d", total, m, e)
		}
		check(t, "Check of a new one", Check(m), api.OK)
		if n, e := Free(m); n != total || e != api.OK {
			t.Errorf("Free of a new one of %d: %d, %d", total, n, e)
		}
	}
	for _, total := range []int{-1, -8, 2049, 2056, math.MaxInt, math.MinInt, math.MaxInt - 7} {
		if m, e := New(total); e != api.ErrArg || !empty(m) {
			t.Errorf("New(%d): %v, %d", total, m, e)
		}
	}
}

func TestP6_1Check(t *testing.T) {
	for _, row := range rows() {
		if e := Check(mapOf(row)); e != api.OK {
			t.Fatalf("%v: %d", row, e)
		}
	}
	for total := range 2049 { // each bit beyond
		for bit := total; bit%8 != 0; bit++ {
			m := mapOf(make([]bool, total))
			m.Bits[bit/8] |= 1 << (bit % 8)
			check(t, fmt.Sprintf("bit %d of %d blocks", bit, total), Check(m), api.ErrForm)
		}
		check(t, "a byte too many", Check(Map{total, make([]byte, (total+7)/8+1)}), api.ErrForm)
		if total > 0 {
			check(t, "a byte too few", Check(Map{total, make([]byte, (total+7)/8-1)}), api.ErrForm)
		}
	}
	check(t, "no bytes, nil", Check(Map{}), api.OK)
	check(t, "no bytes, empty", Check(Map{0, []byte{}}), api.OK)
}

// wrong are maps that aren't in form, with their errors.
func wrong() map[string]struct {
	m    Map
	want api.Errno
} {
	return map[string]struct {
		m    Map
		want api.Errno
	}{
		"total -1":                 {Map{-1, nil}, api.ErrArg},
		"total -7":                 {Map{-7, nil}, api.ErrArg},
		"total -8, a byte":         {Map{-8, []byte{0}}, api.ErrArg},
		"total 2049":               {Map{2049, make([]byte, 257)}, api.ErrArg},
		"total 2049, wrong bytes":  {Map{2049, []byte{1}}, api.ErrArg},
		"the greatest total":       {Map{math.MaxInt, nil}, api.ErrArg},
		"the least total":          {Map{math.MinInt, nil}, api.ErrArg},
		"a bit beyond":             {Map{10, []byte{0, 4}}, api.ErrForm},
		"the last bit beyond":      {Map{10, []byte{0, 128}}, api.ErrForm},
		"no bytes":                 {Map{10, nil}, api.ErrForm},
		"a byte too few":           {Map{10, []byte{0}}, api.ErrForm},
		"a byte too many":          {Map{10, []byte{0, 0, 0}}, api.ErrForm},
		"of no blocks, a byte":     {Map{0, []byte{0}}, api.ErrForm},
		"of 8 blocks, two bytes":   {Map{8, []byte{0, 0}}, api.ErrForm},
		"of 2048, 255 bytes":       {Map{2048, make([]byte, 255)}, api.ErrForm},
		"full, and one bit beyond": {Map{1, []byte{3}}, api.ErrForm},
	}
}

// TestP6_1To3MapsNotInForm: each call answers the map's own error, whatever else is wrong, and nothing beside it.
func TestP6_1To3MapsNotInForm(t *testing.T) {
	for what, c := range wrong() {
		check(t, "Check: "+what, Check(c.m), c.want)
		if n, e := Free(c.m); n != 0 || e != c.want {
			t.Errorf("Free: %s: %d, %d", what, n, e)
		}
		if l, e := Runs(c.m); len(l) != 0 || e != c.want {
			t.Errorf("Runs: %s: %v, %d", what, l, e)
		}
		for _, n := range []int{-1, 0, 1, 3, 3000, math.MinInt, math.MaxInt} {
			if l, m, e := Take(c.m, n); len(l) != 0 || !empty(m) || e != c.want {
				t.Errorf("Take %d: %s: %v, %v, %d", n, what, l, m, e)
			}
			if at, m, e := Extent(c.m, n); at != 0 || !empty(m) || e != c.want {
				t.Errorf("Extent %d: %s: %d, %v, %d", n, what, at, m, e)
			}
			if m, e := Give(c.m, []int{n}); !empty(m) || e != c.want {
				t.Errorf("Give %d: %s: %v, %d", n, what, m, e)
			}
		}
		if m, e := Give(c.m, nil); !empty(m) || e != c.want {
			t.Errorf("Give: %s: %v, %d", what, m, e)
		}
	}
}

func TestP6_1FreeRuns(t *testing.T) {
	for _, row := range rows() {
		n, e := Free(mapOf(row))
		if e != api.OK || n != len(free(row)) {
			t.Fatalf("Free of %v: %d, %d", row, n, e)
		}
		l, e := Runs(mapOf(row))
		if e != api.OK || !slices.Equal(l, runs(row)) {
			t.Fatalf("Runs of %v: %v, %d", row, l, e)
		}
	}
	n, _ := Free(example())
	check(t, "Free", n, 7)
	l, _ := Runs(example())
	check(t, "Runs", l, [][2]int{{2, 2}, {5, 5}})
}

// counts are numbers worth asking for, when so many aren't in use.
func counts(n int) []int {
	l := []int{math.MinInt, -1, 0, 1, 2, 3, n / 2, n - 1, n, n + 1, 2048, 2049, math.MaxInt}
	if n < 12 {
		for i := range n {
			l = append(l, i)
		}
	}
	return l
}

// withUse is the row with these blocks in use too.
func withUse(row []bool, l ...int) []bool {
	row = slices.Clone(row)
	for _, i := range l {
		row[i] = true
	}
	return row
}

func TestP6_2Take(t *testing.T) {
	for _, row := range rows() {
		left := free(row)
		for _, n := range counts(len(left)) {
			l, m, e := Take(mapOf(row), n)
			switch {
			case n < 0 && e == api.ErrArg && len(l) == 0 && empty(m):
			case n > len(left) && e == api.ErrSpace && len(l) == 0 && empty(m):
			case n >= 0 && n <= len(left) && e == api.OK && slices.Equal(l, left[:n]) && same(m, mapOf(withUse(row, left[:n]...))):
			default:
				t.Fatalf("Take(%v, %d): %v, %v, %d", row, n, l, m, e)
			}
		}
	}
	l, m, e := Take(example(), 3)
	check(t, "Take 3", []any{l, m, e}, []any{[]int{2, 3, 5}, Map{10, []byte{0x3f, 0}}, api.OK})
	l, m, e = Take(example(), 8)
	check(t, "Take 8", []any{l, m, e}, []any{[]int{}, Map{}, api.ErrSpace})
}

// extent is the first of the shortest runs of at least n blocks; -1: there is none.
func extent(row []bool, n int) int {
	l := runs(row)
	l = slices.DeleteFunc(l, func(r [2]int) bool { return r[1] < n })
	if len(l) == 0 {
		return -1
	}
	slices.SortStableFunc(l, func(a, b [2]int) int { return a[1] - b[1] })
	return l[0][0]
}

func TestP6_2Extent(t *testing.T) {
	for _, row := range rows() {
		for _, n := range counts(len(free(row))) {
			at, m, e := Extent(mapOf(row), n)
			if n < 1 {
				if at != 0 || !empty(m) || e != api.ErrArg {
					t.Fatalf("Extent(%v, %d): %d, %v, %d", row, n, at, m, e)
				}
				continue
			}
			want := extent(row, n)
			if want < 0 {
				if at != 0 || !empty(m) || e != api.ErrSpace {
					t.Fatalf("Extent(%v, %d): %d, %v, %d", row, n, at, m, e)
				}
				continue
			}
			after := slices.Clone(row)
			for i := range n {
				after[want+i] = true
			}
			if at != want || e != api.OK || !same(m, mapOf(after)) {
				t.Fatalf("Extent(%v, %d): %d, %v, %d; not %d", row, n, at, m, e, want)
			}
		}
	}
	for n, want := range map[int][]any{
		0: {0, Map{}, api.ErrArg}, 1: {2, Map{10, []byte{0x17, 0}}, api.OK}, 2: {2, Map{10, []byte{0x1f, 0}}, api.OK}, 3: {5, Map{10, []byte{0xf3, 0}}, api.OK}, 5: {5, Map{10, []byte{0xf3, 3}}, api.OK}, 6: {0, Map{}, api.ErrSpace},
	} {
		at, m, e := Extent(example(), n)
		check(t, fmt.Sprint("Extent ", n), []any{at, m, e}, want)
	}
}

func TestP6_2ExtentOfSeveral(t *testing.T) {
	// runs of 3, 2, 4, 2, 3: at 0, 4, 7, 12, 15
	row := make([]bool, 18)
	for _, i := range []int{3, 6, 11, 14} {
		row[i] = true
	}
	for n, want := range map[int]int{1: 4, 2: 4, 3: 0, 4: 7} {
		if at, _, e := Extent(mapOf(row), n); at != want || e != api.OK {
			t.Errorf("Extent %d: %d, %d; not %d", n, at, e, want)
		}
	}
}

func TestP6_3Give(t *testing.T) {
	for _, c := range []struct {
		l    []int
		want api.Errno
		bits []byte
	}{
		{nil, api.OK, []byte{0x13, 0}},
		{[]int{}, api.OK, []byte{0x13, 0}},
		{[]int{4, 0}, api.OK, []byte{0x02, 0}},
		{[]int{0, 4}, api.OK, []byte{0x02, 0}},
		{[]int{1, 4, 0}, api.OK, []byte{0, 0}},
		{[]int{4, 4}, api.ErrAbsent, nil},
		{[]int{0, 4, 1, 0}, api.ErrAbsent, nil},
		{[]int{2}, api.ErrAbsent, nil},
		{[]int{9}, api.ErrAbsent, nil}, // the last block that is
		{[]int{10}, api.ErrArg, nil},
		{[]int{15}, api.ErrArg, nil}, // it has a bit, but isn't a block
		{[]int{16}, api.ErrArg, nil},
		{[]int{-1}, api.ErrArg, nil},
		{[]int{math.MaxInt}, api.ErrArg, nil},
		{[]int{math.MinInt}, api.ErrArg, nil},
		{[]int{4, 10, 4}, api.ErrArg, nil}, // the first wrong one's error
		{[]int{4, 4, 10}, api.ErrAbsent, nil},
		{[]int{2, 10}, api.ErrAbsent, nil},
		{[]int{10, 2}, api.ErrArg, nil},
		{[]int{0, -1, 2}, api.ErrArg, nil},
		{[]int{10, 10}, api.ErrArg, nil},
	} {
		m, e := Give(example(), c.l)
		if e != c.want || e == api.OK && !same(m, Map{10, c.bits}) || e != api.OK && !empty(m) {
			t.Errorf("Give %v: %v, %d; not %x, %d", c.l, m, e, c.bits, c.want)
		}
	}
}

func TestP6_3GiveAny(t *testing.T) {
	r := rand.New(rand.NewSource(63))
	for _, row := range rows() {
		for range 4 {
			after, want := slices.Clone(row), api.OK
			var l []int
			for range r.Intn(5) {
				i := r.Intn(len(row)+4) - 2
				l = append(l, i)
				switch {
				case want != api.OK:
				case i < 0 || i >= len(row):
					want = api.ErrArg
				case !after[i]:
					want = api.ErrAbsent
				default:
					after[i] = false
				}
			}
			m, e := Give(mapOf(row), l)
			if e != want || e == api.OK && !same(m, mapOf(after)) || e != api.OK && !empty(m) {
				t.Fatalf("Give(%v, %v): %v, %d; not %d", row, l, m, e, want)
			}
		}
	}
}

func TestP6_3ThereAndBack(t *testing.T) {
	r := rand.New(rand.NewSource(64))
	for _, row := range rows() {
		m := mapOf(row)
		for _, n := range []int{0, 1, 2, len(free(row)) / 2, len(free(row))} {
			l, taken, e := Take(m, n)
			if e != api.OK {
				continue
			}
			r.Shuffle(len(l), func(i, j int) { l[i], l[j] = l[j], l[i] })
			if back, e := Give(taken, l); e != api.OK || !same(back, m) {
				t.Fatalf("Take %d of %v, given back: %v, %d", n, row, back, e)
			}
		}
		for n := 1; n <= len(row); n = 2*n + 1 {
			at, taken, e := Extent(m, n)
			if e != api.OK {
				break
			}
			var l []int
			for i := range n {
				l = append(l, at+i)
			}
			if back, e := Give(taken, l); e != api.OK || !same(back, m) {
				t.Fatalf("Extent %d of %v, given back: %v, %d", n, row, back, e)
			}
		}
	}
}

// spared is the example with room behind its bytes that has marks, and a look whether all of it still stands.
func spared() (Map, func() bool) {
	all := append(example().Bits, 0xee, 0xee, 0xee)
	return Map{10, all[:2]}, func() bool { return bytes.Equal(all, []byte{0x13, 0, 0xee, 0xee, 0xee}) }
}

func spoil(b []byte) {
	b = b[:cap(b)]
	for i := range b {
		b[i] ^= 0x5a
	}
}

func TestP6_1To3NewMemory(t *testing.T) {
	calls := map[string]func(Map) Map{
		"Take":        func(m Map) Map { _, m, _ = Take(m, 3); return m },
		"Take none":   func(m Map) Map { _, m, _ = Take(m, 0); return m },
		"Take 8":      func(m Map) Map { _, m, _ = Take(m, 8); return m },
		"Extent":      func(m Map) Map { _, m, _ = Extent(m, 5); return m },
		"Extent 6":    func(m Map) Map { _, m, _ = Extent(m, 6); return m },
		"Give":        func(m Map) Map { m, _ = Give(m, []int{4, 0}); return m },
		"Give none":   func(m Map) Map { m, _ = Give(m, nil); return m },
		"Give absent": func(m Map) Map { m, _ = Give(m, []int{4, 0, 4}); return m },
		"Check":       func(m Map) Map { Check(m); return Map{} },
		"Free":        func(m Map) Map { Free(m); return Map{} },
		"Runs":        func(m Map) Map { Runs(m); return Map{} },
	}
	for what, call := range calls {
		m, still := spared()
		a, b := call(m), call(m)
		if !still() || m.Total != 10 {
			t.Errorf("%s changes what is handed in", what)
		}
		was := bytes.Clone(b.Bits)
		spoil(a.Bits)
		if !still() || !bytes.Equal(b.Bits, was) {
			t.Errorf("%s: an answer shares memory", what)
		}
		spoil(m.Bits)
		if !bytes.Equal(b.Bits, was) {
			t.Errorf("%s: an answer shares memory with what was handed in", what)
		}
	}
	l := []int{4, 0, 99, 99}
	Give(example(), l[:2])
	Give(example(), l[:3])
	check(t, "the list that is given", l, []int{4, 0, 99, 99})
}

package snap

import (
	"fmt"
	"hash/crc32"
	"math"
	"math/rand"
	"slices"
	"strings"
	"testing"
	"unsafe"

	"parley/api"
)

func check(t *testing.T, what string, got, want any) {
	t.Helper()
	if g, w := fmt.Sprint(got), fmt.Sprint(want); g != w {
		t.Errorf("%s: %.300s, not %.300s", what, g, w)
	}
}

// text is n bytes of any kind.
func text(n int) string {
	b := make([]byte, n)
	rand.New(rand.NewSource(int64(n))).Read(b)
	return string(b)
}

func sum(s string) uint32 {
	return crc32.ChecksumIEEE([]byte(s))
}

// split is Split of what can be split.
func split(t *testing.T, s string, size int) []Piece {
	t.Helper()
	l, e := Split(s, size)
	if e != api.OK {
		t.Fatalf("Split of %d bytes, %d: %d", len(s), size, e)
	}
	return l
}

func TestP12_1Examples(t *testing.T) {
	s := sum("abcde")
	check(t, "abcde", split(t, "abcde", 2), []Piece{{0, 3, s, "ab"}, {1, 3, s, "cd"}, {2, 3, s, "e"}})
	check(t, "nothing", split(t, "", 5), []Piece{{0, 1, 0, ""}})
	for _, c := range []struct {
		text string
		size int
		want api.Errno
	}{{"ab", 0, api.ErrArg}, {text(101), 1, api.ErrBig}} {
		l, e := Split(c.text, c.size)
		check(t, "an error", []any{len(l), e}, []any{0, c.want})
	}
}

func TestP12_1Errors(t *testing.T) {
	check(t, "the limits", []int{MaxText, MaxPieces}, []int{4000, 100})
	for _, c := range []struct {
		length, size int
		pieces       int
		want         api.Errno
	}{
		{0, 1, 1, api.OK},
		{0, math.MaxInt, 1, api.OK},
		{1, 1, 1, api.OK},
		{1, math.MaxInt, 1, api.OK},
		{2, math.MaxInt - 1, 1, api.OK},
		{100, 1, 100, api.OK},
		{101, 1, 0, api.ErrBig},
		{200, 2, 100, api.OK},
		{201, 2, 0, api.ErrBig},
		{4000, 40, 100, api.OK},
		{4000, 39, 0, api.ErrBig},
		{4000, 1, 0, api.ErrBig},
		{4000, 3999, 2, api.OK},
		{4000, 4000, 1, api.OK},
		{4000, 4001, 1, api.OK},
		{4000, math.MaxInt, 1, api.OK},
		{4001, 41, 0, api.ErrBig},
		{4001, 4000, 0, api.ErrBig},
		{4001, 4001, 0, api.ErrBig},
		{4001, math.MaxInt, 0, api.ErrBig},
		{100000, math.MaxInt, 0, api.ErrBig},
		{0, 0, 0, api.ErrArg},
		{5, -1, 0, api.ErrArg},
		{5, math.MinInt, 0, api.ErrArg},
		{4001, 0, 0, api.ErrArg},
		{4001, -7, 0, api.ErrArg},
	} {
		l, e := Split(text(c.length), c.size)
		check(t, fmt.Sprintf("%d bytes, %d", c.length, c.size), []any{len(l), e}, []any{c.pieces, c.want})
	}
}

// TestP12_1Pieces: each piece is as said, for all short texts and sizes, and some longer ones.
func TestP12_1Pieces(t *testing.T) {
	lengths := []int{77, 99, 100, 101, 500, 1000, 3999, 4000}
	for i := range 40 {
		lengths = append(lengths, i)
	}
	for _, n := range lengths {
		s := text(n)
		for size := 1; size <= n+2; size++ {
			if (n+size-1)/size > 100 {
				continue
			}
			l, all := split(t, s, size), ""
			for i, p := range l {
				if p.Index != i || p.Total != len(l) || p.Sum != sum(s) {
					t.Fatalf("%d bytes, %d: piece %d: %d of %d", n, size, i, p.Index, p.Total)
				}
				if i < len(l)-1 && len(p.Data) != size || len(p.Data) > size || n > 0 && p.Data == "" {
					t.Fatalf("%d bytes, %d: piece %d of %d has %d", n, size, i, len(l), len(p.Data))
				}
				all += p.Data
			}
			if all != s || len(l) == 0 {
				t.Fatalf("%d bytes, %d: the pieces are no text", n, size)
			}
		}
	}
}

func TestP12_2Examples(t *testing.T) {
	l := split(t, "abcde", 2)
	var b Box
	check(t, "none: Missing", len(b.Missing()), 0)
	for i, c := range []struct {
		k       int
		whole   bool
		e       api.Errno
		missing []int
		text    string
		absent  api.Errno
	}{
		{2, false, api.OK, []int{0, 1}, "", api.ErrAbsent},
		{0, false, api.OK, []int{1}, "", api.ErrAbsent},
		{2, false, api.ErrTaken, []int{1}, "", api.ErrAbsent},
		{1, true, api.OK, nil, "abcde", api.OK},
		{1, false, api.ErrTaken, nil, "abcde", api.OK},
	} {
		whole, e := b.Take(l[c.k])
		check(t, fmt.Sprint("Take ", i), []any{whole, e}, []any{c.whole, c.e})
		check(t, fmt.Sprint("Missing ", i), b.Missing(), c.missing)
		s, e := b.Text()
		check(t, fmt.Sprint("Text ", i), []any{s, e}, []any{c.text, c.absent})
	}
}

func TestP12_2Empty(t *testing.T) {
	var b Box
	s, e := b.Text()
	check(t, "no piece", []any{len(b.Missing()), s, e}, []any{0, "", api.ErrAbsent})
	whole, e := b.Take(Piece{0, 1, 0, ""})
	check(t, "the piece of nothing", []any{whole, e}, []any{true, api.OK})
	s, e = b.Text()
	check(t, "nothing", []any{len(b.Missing()), s, e}, []any{0, "", api.OK})
	whole, e = b.Take(Piece{0, 1, 0, ""})
	check(t, "again", []any{whole, e}, []any{false, api.ErrTaken})
	whole, e = b.Take(Piece{0, 1, 0, "x"})
	check(t, "another", []any{whole, e}, []any{false, api.ErrForm})
}

// TestP12_2Take: the errors, the first one named ahead of the others; behind each nothing has changed.
func TestP12_2Take(t *testing.T) {
	long := strings.Repeat("x", 4000)
	for _, there := range [][]Piece{nil, {{1, 3, 7, "bc"}}, {{1, 3, 7, "bc"}, {0, 3, 7, "a"}}} {
		for _, c := range []struct {
			what        string
			p           Piece
			first, then api.Errno // of an empty Box, and of one where number 1 of 3 is
		}{
			{"the last one", Piece{2, 3, 7, "d"}, api.OK, api.OK},
			{"the longest", Piece{2, 3, 7, long}, api.OK, api.OK},
			{"an empty one", Piece{2, 3, 7, ""}, api.OK, api.OK},
			{"one of nothing", Piece{0, 0, 7, ""}, api.ErrArg, api.ErrArg},
			{"the zero one", Piece{}, api.ErrArg, api.ErrArg},
			{"a total below 0", Piece{0, -1, 7, "a"}, api.ErrArg, api.ErrArg},
			{"the least total", Piece{0, math.MinInt, 7, "a"}, api.ErrArg, api.ErrArg},
			{"a total of 101", Piece{0, 101, 7, "a"}, api.ErrArg, api.ErrArg},
			{"the greatest total", Piece{5, math.MaxInt, 7, "a"}, api.ErrArg, api.ErrArg},
			{"an index below 0", Piece{-1, 3, 7, "a"}, api.ErrArg, api.ErrArg},
			{"the least index", Piece{math.MinInt, 3, 7, "a"}, api.ErrArg, api.ErrArg},
			{"an index of 3", Piece{3, 3, 7, "a"}, api.ErrArg, api.ErrArg},
			{"the greatest index", Piece{math.MaxInt, 3, 7, "a"}, api.ErrArg, api.ErrArg},
			{"100 of 100", Piece{100, 100, 7, "a"}, api.ErrArg, api.ErrArg},
			{"too long", Piece{2, 3, 7, long + "x"}, api.ErrArg, api.ErrArg},
			{"too long, another sum", Piece{2, 3, 8, long + "x"}, api.ErrArg, api.ErrArg},
			{"too long, in another's place", Piece{1, 3, 7, long + "x"}, api.ErrArg, api.ErrArg},
			{"another total", Piece{2, 4, 7, "d"}, api.OK, api.ErrForm},
			{"a lesser total", Piece{0, 1, 7, "a"}, api.OK, api.ErrForm},
			{"99 of 100", Piece{99, 100, 7, "a"}, api.OK, api.ErrForm},
			{"another sum", Piece{2, 3, 8, "d"}, api.OK, api.ErrForm},
			{"no sum", Piece{2, 3, 0, "d"}, api.OK, api.ErrForm},
			{"in another's place", Piece{1, 3, 7, "bd"}, api.OK, api.ErrForm},
			{"in another's place, less", Piece{1, 3, 7, "b"}, api.OK, api.ErrForm},
			{"nothing in another's place", Piece{1, 3, 7, ""}, api.OK, api.ErrForm},
			{"that very one, another total", Piece{1, 4, 7, "bc"}, api.OK, api.ErrForm},
			{"that very one, another sum", Piece{1, 3, 6, "bc"}, api.OK, api.ErrForm},
			{"that very one", Piece{1, 3, 7, "bc"}, api.OK, api.ErrTaken},
		} {
			var b Box
			for _, p := range there {
				b.Take(p)
			}
			want := c.first
			if len(there) > 0 {
				want = c.then
			}
			was := b
			whole, e := b.Take(c.p)
			check(t, fmt.Sprint(c.what, ", ", len(there), " there"), []any{whole, e}, []any{want == api.OK && (len(there) == 2 || c.p.Total == 1), want})
			if want != api.OK && b != was {
				t.Errorf("%s: something has changed", c.what)
			}
		}
	}
}

func TestP12_2Text(t *testing.T) {
	half := strings.Repeat("x", 2000)
	for _, c := range []struct {
		what string
		data []string
		sum  uint32
		want api.Errno
	}{
		{"one", []string{"abc"}, sum("abc"), api.OK},
		{"unlike lengths", []string{"", "abc", "", "d", half}, sum("abcd" + half), api.OK},
		{"nothing in three", []string{"", "", ""}, 0, api.OK},
		{"the longest", []string{half, half}, sum(half + half), api.OK},
		{"the longest in one", []string{half + half}, sum(half + half), api.OK},
		{"another sum", []string{"abc"}, sum("abd"), api.ErrForm},
		{"the other way round", []string{"c", "ab"}, sum("abc"), api.ErrForm},
		{"a sum of nothing", []string{"a"}, 0, api.ErrForm},
		{"one byte too many", []string{half, half, "x"}, sum(half + half + "x"), api.ErrBig},
		{"too many, another sum", []string{half, half, "x"}, 5, api.ErrBig},
		{"far too many", slices.Repeat([]string{half + half}, 100), 5, api.ErrBig},
	} {
		var b Box
		for i := len(c.data) - 1; i >= 0; i-- {
			whole, e := b.Take(Piece{i, len(c.data), c.sum, c.data[i]})
			check(t, c.what+": Take", []any{whole, e}, []any{i == 0, api.OK})
		}
		want := ""
		if c.want == api.OK {
			want = strings.Join(c.data, "")
		}
		for range 2 { // it stays what it is
			s, e := b.Text()
			check(t, c.what+": Missing", len(b.Missing()), 0)
			if s != want || e != c.want {
				t.Errorf("%s: %d bytes, %d", c.what, len(s), e)
			}
		}
	}
}

// orders gives f all orders of the numbers below n.
func orders(n int, f func(l []int)) {
	var rest func(l []int)
	rest = func(l []int) {
		if len(l) == n {
			f(l)
			return
		}
		for i := range n {
			if !slices.Contains(l, i) {
				rest(append(slices.Clone(l), i))
			}
		}
	}
	rest(nil)
}

// TestP12_2Orders: all orders of a few pieces, each piece twice.
func TestP12_2Orders(t *testing.T) {
	for n := range 6 {
		s := text(3*n + 1)
		l := split(t, s, 3)
		orders(n+1, func(order []int) {
			var b Box
			left := []int{}
			for i := range l {
				left = append(left, i)
			}
			for k, i := range order {
				left = slices.DeleteFunc(left, func(x int) bool { return x == i })
				whole, e := b.Take(l[i])
				again, f := b.Take(l[i])
				s2, absent := b.Text()
				last := k == n
				want := []any{last, api.OK, false, api.ErrTaken, left, "", api.ErrAbsent}
				if last {
					want = []any{last, api.OK, false, api.ErrTaken, left, s, api.OK}
				}
				check(t, fmt.Sprint(order, " ", k), []any{whole, e, again, f, b.Missing(), s2, absent}, want)
			}
		})
	}
}

// TestP12_2Rows: pieces at random, most of them of one text, held against a map.
func TestP12_2Rows(t *testing.T) {
	ends := 0
	for seed := range 3000 {
		r := rand.New(rand.NewSource(int64(seed)))
		var b Box
		here := map[int]Piece{}
		total, all := 1+r.Intn(5), []string{"a", "b"}
		var one Piece
		for range 20 {
			p := Piece{r.Intn(total+2) - 1, total, 9, all[r.Intn(7)%2*r.Intn(2)]}
			if r.Intn(6) == 0 {
				p.Total += r.Intn(3) - 1
			}
			p.Sum += uint32(r.Intn(8) / 7)
			q, ok := here[p.Index]
			want := api.OK
			switch {
			case p.Total < 1 || p.Index < 0 || p.Index >= p.Total:
				want = api.ErrArg
			case len(here) > 0 && (p.Total != one.Total || p.Sum != one.Sum) || ok && q.Data != p.Data:
				want = api.ErrForm
			case ok:
				want = api.ErrTaken
			default:
				here[p.Index], one = p, p
			}
			whole, e := b.Take(p)
			check(t, fmt.Sprint(p), []any{whole, e}, []any{want == api.OK && len(here) == p.Total, want})
			var missing []int
			for i := range one.Total {
				if _, ok := here[i]; !ok {
					missing = append(missing, i)
				}
			}
			check(t, "Missing", b.Missing(), missing)
			if whole {
				ends++
			}
		}
	}
	if ends < 300 {
		t.Errorf("%d whole texts", ends)
	}
}

// TestP12_3: the pieces of Split, in any order, some of them twice, make the text.
func TestP12_3(t *testing.T) {
	r := rand.New(rand.NewSource(123))
	for range 2000 {
		n := []int{r.Intn(20), r.Intn(200), r.Intn(4001), 4000}[r.Intn(4)]
		size := max(1, (n+99)/100) + r.Intn(3)*r.Intn(n+2)
		s := text(n)
		l := split(t, s, size)
		twice := slices.Concat(l, l[:r.Intn(len(l)+1)])
		r.Shuffle(len(twice), func(i, j int) { twice[i], twice[j] = twice[j], twice[i] })
		var b Box
		seen, wholes := map[int]int{}, 0
		for _, p := range twice {
			whole, e := b.Take(p)
			if seen[p.Index]++; seen[p.Index] == 1 != (e == api.OK) || e != api.OK && e != api.ErrTaken {
				t.Fatalf("%d bytes, %d: Take: %d", n, size, e)
			}
			if whole != (e == api.OK && len(seen) == len(l)) {
				t.Fatalf("%d bytes, %d: whole %v with %d of %d", n, size, whole, len(seen), len(l))
			}
			if whole {
				wholes++
			}
			if len(b.Missing()) != len(l)-len(seen) {
				t.Fatalf("%d bytes, %d: %d missing", n, size, len(b.Missing()))
			}
		}
		got, e := b.Text()
		if got != s || e != api.OK || wholes != 1 {
			t.Fatalf("%d bytes, %d: %d bytes, %d", n, size, len(got), e)
		}
	}
}

// shares tells whether two texts that are the same stand in the same place.
func shares(a, b string) bool {
	return unsafe.StringData(a) == unsafe.StringData(b)
}

func TestP12_4(t *testing.T) {
	s := text(50)
	first, second := split(t, s, 20), split(t, s, 20)
	clear(first[1:cap(first)])
	check(t, "another answer of Split", second, split(t, text(50), 20))
	if shares(first[0].Data, s) || shares(split(t, s, 50)[0].Data, s) {
		t.Error("a piece stands in the text")
	}
	var b Box
	p := split(t, s, 50)[0]
	b.Take(p)
	if shares(b.data[0], p.Data) {
		t.Error("a Box keeps what it was handed")
	}
	got, _ := b.Text()
	again, _ := b.Text()
	if got != s || shares(got, p.Data) || shares(got, again) {
		t.Error("Text stands in a piece, or in another answer")
	}
	var c Box
	c.Take(second[1])
	missing := c.Missing()
	want := slices.Clone(missing)
	clear(missing[:cap(missing)])
	check(t, "another answer of Missing", c.Missing(), want)
	c.Take(second[0])
	check(t, "behind a Take", want, []int{0, 2})
	d := c // a copy is a Box of its own
	d.Take(second[2])
	check(t, "a copy", []any{len(c.Missing()), len(d.Missing())}, []any{1, 0})
}

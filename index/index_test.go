package index_test

import (
	"fmt"
	"math"
	"slices"
	"strings"
	"testing"
	"unsafe"

	"parley/api"
	"parley/index"
)

func check(t *testing.T, what string, got, want any) {
	t.Helper()
	if g, w := fmt.Sprintf("%+v", got), fmt.Sprintf("%+v", want); g != w {
		t.Errorf("%s: %.1000s, not %.1000s", what, g, w)
	}
}

// put puts texts as posts 0, 1 and so on.
func put(t *testing.T, x *index.Index, texts ...string) {
	t.Helper()
	for i, s := range texts {
		if e := x.Put(i, s); e != api.OK {
			t.Fatalf("%d, %q: error %d", i, s, e)
		}
	}
}

// of is an index of texts.
func of(t *testing.T, texts ...string) *index.Index {
	t.Helper()
	x := index.New()
	put(t, x, texts...)
	return x
}

// size holds how many posts and how many words there are.
func size(t *testing.T, what string, x *index.Index, posts, words int) {
	t.Helper()
	p, w := x.Len()
	check(t, what+": Len", []int{p, w}, []int{posts, words})
}

// stands holds a word's posts and how often each has it, in one list: a post, how often, a post, how often.
func stands(t *testing.T, what string, x *index.Index, word string, want ...int) {
	t.Helper()
	posts, counts := x.Postings(word)
	got := []int{}
	for i := range posts {
		got = append(got, posts[i], counts[i])
	}
	check(t, fmt.Sprintf("%s: postings of %.50q", what, word), []any{got, len(counts)}, []any{append([]int{}, want...), len(want) / 2})
}

// found holds which posts a query finds, in their order.
func found(t *testing.T, what string, x *index.Index, query string, boost float64, most int, want ...int) {
	t.Helper()
	l, e := x.Find(query, boost, most)
	check(t, fmt.Sprintf("%s: error of finding %.50q", what, query), e, api.OK)
	got := []int{}
	for _, h := range l {
		got = append(got, h.Post)
	}
	check(t, fmt.Sprintf("%s: found by %.50q", what, query), got, append([]int{}, want...))
}

// told is all that an index tells of these words.
func told(x *index.Index, words ...string) string {
	p, w := x.Len()
	text := fmt.Sprint(p, w)
	for _, word := range words {
		posts, counts := x.Postings(word)
		l, e := x.Find(word, 1, 999)
		text += fmt.Sprintf(" %q %v %v %v %d", word, posts, counts, l, e)
	}
	return text
}

func TestP19_1Constants(t *testing.T) {
	const most = index.MaxDocs
	check(t, "MaxDocs", most, 300)
	check(t, "a hit", index.Hit{1, 2.5}, index.Hit{Post: 1, Score: 2.5})
}

func TestP19_1Examples(t *testing.T) {
	x := of(t, "a b a", "b c")
	size(t, "the first example", x, 2, 3)
	stands(t, "the first example", x, "a", 0, 2)
	stands(t, "the first example", x, "b", 0, 1, 1, 1)
	stands(t, "the first example", x, "c", 1, 1)
}

func TestP19_1New(t *testing.T) {
	x := index.New()
	size(t, "a new one", x, 0, 0)
	stands(t, "a new one", x, "a")
	stands(t, "a new one", x, "")
	x.Drop(0)
	put(t, x, "a")
	size(t, "the one", x, 1, 1)
	size(t, "the other one", index.New(), 0, 0)
}

// TestP19_1Put: a post has its last text alone.
func TestP19_1Put(t *testing.T) {
	x := of(t, "a b a", "b c")
	put(t, x, "c d c c")
	size(t, "another text", x, 2, 3)
	stands(t, "another text", x, "a")
	stands(t, "another text", x, "b", 1, 1)
	stands(t, "another text", x, "c", 0, 3, 1, 1)
	stands(t, "another text", x, "d", 0, 1)
	put(t, x, "c d c c", "b c")
	size(t, "the same texts", x, 2, 3)
	stands(t, "the same texts", x, "c", 0, 3, 1, 1)
	put(t, x, "c")
	size(t, "fewer of a word", x, 2, 2)
	stands(t, "fewer of a word", x, "c", 0, 1, 1, 1)
	stands(t, "fewer of a word", x, "d")
	check(t, "a great number", x.Put(math.MaxInt, "b"), api.OK)
	stands(t, "a great number", x, "b", 1, 1, math.MaxInt, 1)
}

// TestP19_1Tokens: the words are layer 16's; what has none isn't in the index.
func TestP19_1Tokens(t *testing.T) {
	fits, long := strings.Repeat("x", 32), strings.Repeat("y", 33)
	for _, none := range []string{"", " ", "!?, -", "\x00", "×÷", long, strings.Repeat("é", 17), "- " + long + " -"} {
		x := of(t, "a", "a b")
		put(t, x, none)
		size(t, fmt.Sprintf("%.50q", none), x, 1, 2)
		stands(t, fmt.Sprintf("%.50q", none), x, "a", 1, 1)
		check(t, "of a new post", x.Put(7, none), api.OK)
		size(t, fmt.Sprintf("%.50q of a new post", none), x, 1, 2)
		x = of(t, none)
		size(t, fmt.Sprintf("%.50q alone", none), x, 0, 0)
	}
	x := of(t, "Don't, ÉTÉ×2! don été ΣΑΣ", fits+" "+long, strings.Repeat("é", 16)+" "+strings.ToUpper(fits))
	size(t, "words", x, 3, 7)
	for word, want := range map[string][]int{"don": {0, 2}, "t": {0, 1}, "été": {0, 2}, "2": {0, 1}, "σασ": {0, 1}, fits: {1, 1, 2, 1}, strings.Repeat("é", 16): {2, 1}} {
		stands(t, "words", x, word, want...)
	}
	for _, word := range []string{"Don", "ÉTÉ", "", " ", "don't", "don t", "do", "dont", "d", "été ", long, "x", "\xff", "ét\xc3", strings.ToUpper(fits), "\u0000"} {
		stands(t, "no words", x, word)
	}
}

// TestP19_1Errors: the first error that applies, and nothing has changed.
func TestP19_1Errors(t *testing.T) {
	x := of(t, "a b a", "b c")
	was := told(x, "a", "b", "c", "d")
	for _, c := range []struct {
		post int
		text string
		want api.Errno
	}{
		{-1, "d", api.ErrArg}, {-1, "", api.ErrArg}, {-1, "\xff", api.ErrArg}, {math.MinInt, "d", api.ErrArg},
		{0, "\xff", api.ErrText}, {0, "d \xff", api.ErrText}, {1, "\xc3", api.ErrText}, {2, "d\xed\xa0\x80", api.ErrText}, {9, "\xf4\x90\x80\x80", api.ErrText}, {0, "\xc0\x80", api.ErrText},
	} {
		check(t, fmt.Sprintf("%d, %q", c.post, c.text), x.Put(c.post, c.text), c.want)
		check(t, fmt.Sprintf("behind %d, %q", c.post, c.text), told(x, "a", "b", "c", "d"), was)
	}
}

func TestP19_1Full(t *testing.T) {
	x := index.New()
	for i := range 300 {
		check(t, fmt.Sprint("post ", i), x.Put(2*i, fmt.Sprint("all p", i)), api.OK)
	}
	size(t, "full", x, 300, 301)
	was := told(x, "all", "p0", "p299", "more")
	for _, post := range []int{1, 599, 600, math.MaxInt} {
		check(t, fmt.Sprintf("post %d more", post), x.Put(post, "more"), api.ErrBig)
		check(t, fmt.Sprintf("post %d more: no UTF-8", post), x.Put(post, "more\xff"), api.ErrText)
		check(t, fmt.Sprintf("post %d without words", post), x.Put(post, "!"), api.OK)
	}
	check(t, "a wrong number", x.Put(-1, "more"), api.ErrArg)
	check(t, "nothing has changed", told(x, "all", "p0", "p299", "more"), was)
	check(t, "one that is in it", x.Put(598, "more"), api.OK)
	size(t, "one that is in it", x, 300, 301)
	stands(t, "one that is in it", x, "more", 598, 1)
	x.Drop(4)
	check(t, "in the room of one that was dropped", x.Put(5, "more"), api.OK)
	check(t, "full again", x.Put(7, "more"), api.ErrBig)
	check(t, "one loses its words", x.Put(6, "-"), api.OK)
	check(t, "in its room", x.Put(7, "more"), api.OK)
	check(t, "full once more", x.Put(9, "more"), api.ErrBig)
	size(t, "full once more", x, 300, 299)
	stands(t, "full once more", x, "more", 5, 1, 7, 1, 598, 1)
}

func TestP19_1Drop(t *testing.T) {
	x := of(t, "a b a", "b c", "d")
	was := told(x, "a", "b", "c", "d")
	for _, post := range []int{3, -1, math.MaxInt, math.MinInt} {
		x.Drop(post)
		check(t, fmt.Sprintf("%d isn't in it", post), told(x, "a", "b", "c", "d"), was)
	}
	x.Drop(0)
	size(t, "without 0", x, 2, 3)
	stands(t, "without 0", x, "a")
	stands(t, "without 0", x, "b", 1, 1)
	x.Drop(0)
	size(t, "dropped again", x, 2, 3)
	put(t, x, "a")
	stands(t, "back with another text", x, "a", 0, 1)
	stands(t, "back with another text", x, "b", 1, 1)
	x.Drop(1)
	x.Drop(0)
	x.Drop(2)
	size(t, "without any", x, 0, 0)
	check(t, "without any", told(x, "a", "b", "c", "d"), told(index.New(), "a", "b", "c", "d"))
}

// TestP19_1Rising: postings are by the posts' numbers, whatever the order in which they came.
func TestP19_1Rising(t *testing.T) {
	x := index.New()
	for _, post := range []int{10, 2, 300, 0, 33, 4, 1, 100, 20} {
		x.Put(post, strings.Repeat("w ", post%7+1))
	}
	x.Put(2, "w w w w w w w w w")
	x.Drop(33)
	stands(t, "in order", x, "w", 0, 1, 1, 2, 2, 9, 4, 5, 10, 4, 20, 7, 100, 3, 300, 7)
	found(t, "the same score", x, "w", 1, 99, 0, 1, 2, 4, 10, 20, 100, 300)
}

func TestP19_2Examples(t *testing.T) {
	x := of(t, "a b a", "b c")
	for _, c := range []struct {
		query string
		boost float64
		want  string
	}{
		{"B", 1, "[{Post:1 Score:0.5} {Post:0 Score:0.3333333333333333}]"},
		{"a c", 1, "[]"},
		{"b", -1, "[{Post:0 Score:-0.3333333333333333} {Post:1 Score:-0.5}]"},
		{"b", math.NaN(), "[{Post:0 Score:NaN} {Post:1 Score:NaN}]"},
		{"b", math.Inf(1), "[{Post:0 Score:+Inf} {Post:1 Score:+Inf}]"},
		{"b", 0, "[{Post:0 Score:0} {Post:1 Score:0}]"},
	} {
		l, e := x.Find(c.query, c.boost, 9)
		check(t, fmt.Sprint(c.query, c.boost), []any{l, e}, []any{c.want, api.OK})
	}
}

// TestP19_2Boosts: numbers at the edges of float64.
func TestP19_2Boosts(t *testing.T) {
	x := of(t, "a b a", "b c")
	for _, c := range []struct {
		boost float64
		want  string
	}{
		{math.Inf(-1), "[{Post:0 Score:-Inf} {Post:1 Score:-Inf}]"},
		{math.Copysign(0, -1), "[{Post:0 Score:0} {Post:1 Score:0}]"},
		{5e-324, "[{Post:0 Score:0} {Post:1 Score:0}]"},
		{-5e-324, "[{Post:0 Score:0} {Post:1 Score:0}]"},
		{1e-323, "[{Post:0 Score:5e-324} {Post:1 Score:5e-324}]"},
		{math.Float64frombits(0xfff8000000000123), "[{Post:0 Score:NaN} {Post:1 Score:NaN}]"},
	} {
		l, e := x.Find("b", c.boost, 9)
		check(t, fmt.Sprint(c.boost), []any{l, e}, []any{c.want, api.OK})
		for _, h := range l {
			check(t, fmt.Sprint("nought has no sign: ", c.boost), h.Score == 0 && math.Signbit(h.Score), false)
		}
	}
	x = of(t, "a b", "c a b a b", "a a a a", "c d c", "d c")
	half, less := ratio(1, 2)*ratio(5, 3)*math.MaxFloat64, ratio(2, 5)*ratio(5, 3)*math.MaxFloat64
	l, _ := x.Find("a", math.MaxFloat64, 9)
	check(t, "beyond the greatest number", l, []index.Hit{{2, math.Inf(1)}, {0, half}, {1, less}})
	l, _ = x.Find("a", -math.MaxFloat64, 9)
	check(t, "beyond the least number", l, []index.Hit{{1, -less}, {0, -half}, {2, math.Inf(-1)}})
	l, _ = x.Find("b a", math.MaxFloat64, 9)
	check(t, "a sum beyond it", l, "[{Post:0 Score:+Inf} {Post:1 Score:+Inf}]")
}

// TestP19_2Score: what a post has of a word, and how rare that is; the products from left to right, the sum in the numbers' order.
func TestP19_2Score(t *testing.T) {
	x := of(t, "a b c a", "a", "b c d e f g b", "x", "y z", "b")
	l, _ := x.Find("b a c", 1.5, 9)
	weights := []float64{ratio(2, 4) * ratio(6, 2) * 1.5, ratio(1, 4) * ratio(6, 3) * 1.5, ratio(1, 4) * ratio(6, 2) * 1.5}
	check(t, "three words", l, []index.Hit{{0, weights[1] + weights[2] + weights[0]}})
	l, _ = x.Find("b", 2, 9)
	check(t, "one word", l, []index.Hit{{5, ratio(1, 1) * ratio(6, 3) * 2}, {2, ratio(2, 7) * ratio(6, 3) * 2}, {0, ratio(1, 4) * ratio(6, 3) * 2}})
	x.Drop(3)
	x.Drop(5)
	l, _ = x.Find("b", 2, 9)
	check(t, "fewer posts", l, []index.Hit{{2, ratio(2, 7) * ratio(4, 2) * 2}, {0, ratio(1, 4) * ratio(4, 2) * 2}})
	x.Put(2, "b "+strings.Repeat("y", 33)+" d")
	l, _ = x.Find("b", 2, 9)
	check(t, "a word that is too long is none", l, []index.Hit{{2, ratio(1, 2) * ratio(4, 2) * 2}, {0, ratio(1, 4) * ratio(4, 2) * 2}})
}

func TestP19_2Query(t *testing.T) {
	long := strings.Repeat("y", 33)
	x := of(t, "hi été", "été hi "+long, "hi", "été", "no")
	found(t, "capitals", x, "ÉTÉ hi", 1, 9, 0, 1)
	found(t, "signs", x, "(Hi!), -été-", 1, 9, 0, 1)
	for _, query := range []string{"hi hi", "Hi hI HI", "hi, hi; " + long} {
		a, _ := x.Find("hi", 3, 9)
		b, _ := x.Find(query, 3, 9)
		check(t, "no word counts twice: "+query, b, a)
		check(t, "how many: "+query, len(b), 3)
	}
	for _, query := range []string{"", " ", "?!", long, "×", "nothing", "hi nothing", "nothing hi", "hi no", "hi été no", "h", "hié", long + "!"} {
		found(t, "nothing", x, query, 1, 9)
	}
	found(t, "nothing at all", index.New(), "hi", 1, 9)
	for _, query := range []string{"\xff", "hi \xff", "hi\xc3", "\xed\xa0\x80", "nothing \x80"} {
		for _, y := range []*index.Index{x, index.New()} {
			for _, most := range []int{-1, 0, 9} {
				l, e := y.Find(query, math.NaN(), most)
				check(t, fmt.Sprintf("%q, %d", query, most), []any{len(l), e}, []any{0, api.ErrText})
			}
		}
	}
}

// TestP19_2Order: by Score, falling; by numbers where it is level.
func TestP19_2Order(t *testing.T) {
	x := index.New()
	for _, post := range []int{11, 2, 30, 4, 100, 9, 20, 1} {
		x.Put(post, "w"+strings.Repeat(" v", post%4))
	}
	x.Put(7, "v v")
	found(t, "the best first", x, "w", 1, 99, 4, 20, 100, 1, 9, 2, 30, 11)
	found(t, "the worst first", x, "w", -1, 99, 11, 2, 30, 1, 9, 4, 20, 100)
	for _, boost := range []float64{0, math.Copysign(0, -1), math.NaN(), math.Inf(1), math.Inf(-1)} {
		found(t, fmt.Sprint("all level: ", boost), x, "w", boost, 99, 1, 2, 4, 9, 11, 20, 30, 100)
		found(t, fmt.Sprint("the first of them: ", boost), x, "w", boost, 3, 1, 2, 4)
	}
}

func TestP19_2Most(t *testing.T) {
	x := of(t, "w", "w v", "w v v", "v", "w v v v")
	for most, want := range map[int][]int{-1: {}, math.MinInt: {}, 0: {}, 1: {0}, 2: {0, 1}, 3: {0, 1, 2}, 4: {0, 1, 2, 4}, 5: {0, 1, 2, 4}, math.MaxInt: {0, 1, 2, 4}} {
		found(t, fmt.Sprint("at most ", most), x, "w", 1, most, want...)
	}
	found(t, "of none", x, "nothing", 1, math.MinInt)
	x = index.New()
	var all []int
	for i := range 300 {
		x.Put(i, "w")
		all = append(all, i)
	}
	found(t, "all that can be", x, "w", 1, 999, all...)
	found(t, "all but one", x, "w", 1, 299, all[:299]...)
}

// TestP19_3Memory: who writes over an answer changes neither the index nor another answer.
func TestP19_3Memory(t *testing.T) {
	x := of(t, "a b a", "b c", "b", "a a b")
	was := told(x, "a", "b", "c")
	posts, counts := x.Postings("b")
	otherPosts, otherCounts := x.Postings("b")
	hits, _ := x.Find("b", 1, 2)
	otherHits, _ := x.Find("b", 1, 2)
	want := fmt.Sprint(otherPosts, otherCounts, otherHits)
	fill(posts, -9)
	check(t, "counts when posts are written over", counts, otherCounts)
	fill(counts, -9)
	fill(hits, index.Hit{Post: -9})
	check(t, "the other answers", fmt.Sprint(otherPosts, otherCounts, otherHits), want)
	check(t, "the index", told(x, "a", "b", "c"), was)
	x.Put(0, "c")
	x.Drop(1)
	x.Put(9, "b")
	check(t, "answers of an earlier time", fmt.Sprint(otherPosts, otherCounts, otherHits), want)
}

// TestP19_3Kept: of a text that was handed in nothing is kept.
func TestP19_3Kept(t *testing.T) {
	x := index.New()
	for i, text := range []string{"a b a", "b c", "a"} {
		b := []byte(text)
		x.Put(i, unsafe.String(&b[0], len(b)))
		fill(b, 'z')
	}
	check(t, "the index", told(x, "a", "b", "c", "z"), told(of(t, "a b a", "b c", "a"), "a", "b", "c", "z"))
	put(t, x, "", "", "")
	size(t, "without any", x, 0, 0)
}

// TestP19_3Same: the same call of indices that came about in the same way, and in others, is answered in the same way.
func TestP19_3Same(t *testing.T) {
	var texts []string
	for i := range 40 {
		texts = append(texts, fmt.Sprintf("w v%d u%d w t%d s", i%3, i%5, i%7))
	}
	x := of(t, texts...)
	want := told(x, "w", "v1", "u2", "w s", "v0 w u1 s")
	for range 20 {
		check(t, "asked again", told(x, "w", "v1", "u2", "w s", "v0 w u1 s"), want)
	}
	y := index.New()
	for i, text := range slices.Backward(texts) {
		y.Put(i, "w x")
		y.Put(i, text)
	}
	check(t, "in another order", told(y, "w", "v1", "u2", "w s", "v0 w u1 s"), want)
}

func ratio(n, d int) float64 {
	return float64(n) / float64(d)
}

func fill[T any](l []T, x T) {
	for i := range l[:cap(l)] {
		l[:cap(l)][i] = x
	}
}

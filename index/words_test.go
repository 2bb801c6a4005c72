package index_test

import (
	"fmt"
	"math"
	"math/rand"
	"slices"
	"sort"
	"strings"
	"testing"

	"parley/api"
	"parley/index"
)

// words is an index that goes by the document's words: it has each post's tokens, and works all out anew.
type words map[int][]string

func (w words) count(post int, token string) int {
	n := 0
	for _, x := range w[post] {
		if x == token {
			n++
		}
	}
	return n
}

// posts are those that have all the tokens, rising.
func (w words) posts(tokens ...string) []int {
	var l []int
	for post := range w {
		ok := true
		for _, token := range tokens {
			ok = ok && slices.Contains(w[post], token)
		}
		if ok {
			l = append(l, post)
		}
	}
	sort.Ints(l)
	return l
}

func (w words) unlike() []string {
	var l []string
	for post := range w {
		l = append(l, w[post]...)
	}
	return unlike(l)
}

// unlike are the tokens, each once, rising.
func unlike(tokens []string) []string {
	l := slices.Clone(tokens)
	sort.Strings(l)
	return slices.Compact(l)
}

// weights are a post's numbers for the tokens, in their order.
func (w words) weights(post int, tokens []string, boost float64) []float64 {
	var l []float64
	for _, token := range tokens {
		product := ratio(w.count(post, token), len(w[post])) * ratio(len(w), len(w.posts(token)))
		l = append(l, product*boost)
	}
	return l
}

// sum adds numbers that have one sign, in layer 1's order.
func sum(l []float64) float64 {
	l = slices.Clone(l)
	sort.Float64s(l)
	s := 0.0
	for _, x := range l {
		s += x
	}
	return s
}

func (w words) find(query []string, boost float64, most int) []index.Hit {
	tokens := unlike(query)
	if len(tokens) == 0 {
		return nil
	}
	var l []index.Hit
	for _, post := range w.posts(tokens...) {
		h := index.Hit{Post: post, Score: sum(w.weights(post, tokens, boost))}
		i := 0
		for i < len(l) && (l[i].Score >= h.Score || math.IsNaN(l[i].Score)) {
			i++
		}
		l = slices.Insert(l, i, h)
	}
	return l[:max(0, min(most, len(l)))]
}

// shown tells hits with their scores' bits; all NaNs are one.
func shown(l []index.Hit) string {
	text := ""
	for _, h := range l {
		if math.IsNaN(h.Score) {
			h.Score = math.NaN()
		}
		text += fmt.Sprintf("%d %x, ", h.Post, math.Float64bits(h.Score))
	}
	return text
}

// source makes posts, texts and queries of a few words.
type source struct {
	*rand.Rand
	posts, words int // how many unlike ones it gives
}

func (r *source) tokens(most int) []string {
	var l []string
	for range r.Intn(most + 1) {
		l = append(l, fmt.Sprint("w", min(r.Intn(r.words), r.Intn(r.words))))
	}
	return l
}

// text writes tokens in one of the ways that come to the same.
func (r *source) text(tokens []string) string {
	s := ""
	for _, x := range tokens {
		s += []string{x, strings.ToUpper(x), "@" + x}[r.Intn(3)] + []string{" ", "×", ", ", "\n", " " + strings.Repeat("w", 33) + " "}[r.Intn(5)]
	}
	return s
}

func (r *source) boost() float64 {
	edges := []float64{1, -1, 0, math.Copysign(0, -1), math.NaN(), math.Inf(1), math.Inf(-1), math.MaxFloat64, -math.MaxFloat64, 5e-324, -1e-323}
	if r.Intn(3) == 0 {
		return edges[r.Intn(len(edges))]
	}
	return r.NormFloat64()
}

// change puts or drops a post in both, seldom in a wrong way.
func change(t *testing.T, r *source, x *index.Index, w words) {
	t.Helper()
	post, tokens := r.Intn(r.posts), r.tokens(6)
	text := r.text(tokens)
	want := api.OK
	switch _, is := w[post]; {
	case r.Intn(4) == 0:
		x.Drop(post)
		delete(w, post)
		return
	case r.Intn(20) == 0:
		post, want = -1-post, api.ErrArg
	case r.Intn(20) == 0:
		text, want = text+"\xff", api.ErrText
	case len(tokens) == 0:
		delete(w, post)
	case !is && len(w) == 300:
		want = api.ErrBig
	default:
		w[post] = tokens
	}
	if e := x.Put(post, text); e != want {
		t.Fatalf("%d, %q of %v: error %d, not %d", post, text, w, e, want)
	}
}

// agrees holds all that an index tells against the words, by some queries.
func agrees(t *testing.T, r *source, x *index.Index, w words, queries int) {
	t.Helper()
	all := w.unlike()
	if p, n := x.Len(); p != len(w) || n != len(all) {
		t.Fatalf("Len of %v: %d, %d, not %d, %d", w, p, n, len(w), len(all))
	}
	for i := range r.words + 1 {
		token := fmt.Sprint("w", i)
		posts, counts := x.Postings(token)
		var wantCounts []int
		want := w.posts(token)
		for _, post := range want {
			wantCounts = append(wantCounts, w.count(post, token))
		}
		if !slices.Equal(posts, want) || !slices.Equal(counts, wantCounts) {
			t.Fatalf("postings of %s in %v: %v, %v, not %v, %v", token, w, posts, counts, want, wantCounts)
		}
	}
	for range queries {
		query, boost, most := r.tokens(4), r.boost(), r.Intn(12)-1
		l, e := x.Find(r.text(query), boost, most)
		if want := w.find(query, boost, most); e != api.OK || shown(l) != shown(want) {
			t.Fatalf("%v, %v, %d in %v: %v, error %d, not %v", query, boost, most, w, l, e, want)
		}
	}
}

// TestP19Any: any rows of calls against the words.
func TestP19Any(t *testing.T) {
	for seed := range int64(300) {
		r := &source{rand.New(rand.NewSource(seed)), 1 + int(seed%9), 1 + int(seed%7)}
		x, w := index.New(), words{}
		for range 60 {
			change(t, r, x, w)
			agrees(t, r, x, w, 4)
		}
	}
}

// TestP19AnyFull: so many posts that the index is full.
func TestP19AnyFull(t *testing.T) {
	r := &source{rand.New(rand.NewSource(19)), 3000, 50}
	x, w := index.New(), words{}
	full := 0
	for i := range 4000 {
		change(t, r, x, w)
		if len(w) == 300 {
			full++
		}
		if i%100 == 0 {
			agrees(t, r, x, w, 5)
		}
	}
	if full == 0 {
		t.Error("the index never was full")
	}
}

// TestP19_2Rounding: the products are from left to right, and the sum in the numbers' order: where another order comes to other bits, those of this one are answered.
func TestP19_2Rounding(t *testing.T) {
	r := &source{rand.New(rand.NewSource(192)), 40, 12}
	x, w := index.New(), words{}
	for range 300 {
		change(t, r, x, w)
	}
	products, sums := 0, 0
	for range 2000 {
		query := unlike(r.tokens(6))
		boost := r.NormFloat64()
		for _, h := range w.find(query, boost, 99) {
			weights := w.weights(h.Post, query, boost)
			other, row := 0.0, 0.0
			for i, token := range query {
				row += weights[i]
				rarity := ratio(len(w), len(w.posts(token))) * boost
				other += ratio(w.count(h.Post, token), len(w[h.Post])) * rarity
			}
			if len(query) == 1 && other != h.Score {
				products++
			}
			if row != h.Score {
				sums++
			}
		}
		l, _ := x.Find(strings.Join(query, " "), boost, 99)
		if want := w.find(query, boost, 99); shown(l) != shown(want) {
			t.Fatalf("%v, %v in %v: %v, not %v", query, boost, w, l, want)
		}
	}
	if products == 0 || sums == 0 {
		t.Errorf("no case tells the orders apart: %d products, %d sums", products, sums)
	}
}

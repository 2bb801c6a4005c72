package utf_test

import (
	"fmt"
	"math"
	"math/rand"
	"regexp"
	"slices"
	"strings"
	"testing"
	"unicode"

	"parley/api"
	"parley/utf"
)

func check(t *testing.T, what string, got, want any) {
	t.Helper()
	if g, w := fmt.Sprintf("%+v", got), fmt.Sprintf("%+v", want); g != w {
		t.Errorf("%s: %.500s, not %.500s", what, g, w)
	}
}

// checkList holds a list of texts against the one that is wanted.
func checkList(t *testing.T, what string, got, want []string) {
	t.Helper()
	if !slices.Equal(got, want) {
		t.Errorf("%s: %.500q, not %.500q", what, got, want)
	}
}

// wrong are bytes that aren't UTF-8.
var wrong = []string{
	"\xff", "\x80", "\xbf", "\xc3", "\xe2\x82", "\xf0\x9f\x98", "a\xc3", "\xc3a", "é\xa9", "\xc0\x80", "\xc1\xbf", "\xe0\x80\x80", "\xe0\x9f\xbf", "\xf0\x80\x80\x80", "\xf0\x8f\xbf\xbf",
	"\xed\xa0\x80", "\xed\xbf\xbf", "\xed\xa0\xbd\xed\xb8\x80", "\xf4\x90\x80\x80", "\xf5\x80\x80\x80", "\xf8\x88\x80\x80\x80", "\xfe", "hi \xff", "\xffhi", "hi\xe2\x28\xa1", "@ann\xff",
}

// edges are code points beside which the rules change.
var edges = []rune{
	0, '/', '0', '9', ':', '@', 'A', 'Z', '[', '_', '`', 'a', 'z', '{', 0x7f, 0x80, 0xaa, 0xb5, 0xbf, 0xc0, 0xd6, 0xd7, 0xd8, 0xde, 0xdf, 0xe0, 0xf6, 0xf7, 0xf8, 0xff, 0x100,
	0x130, 0x178, 0x390, 0x391, 0x3a1, 0x3a2, 0x3a3, 0x3a9, 0x3aa, 0x3c1, 0x3c2, 0x3c3, 0x3ff, 0x400, 0x40f, 0x410, 0x42f, 0x430, 0x44f, 0x45f, 0x460, 0x7ff, 0x800, 0x1e9e, 0x1fff, 0x2000, 0x203f, 0x206f, 0x2070,
	0x212a, 0x2fff, 0x3000, 0x303f, 0x3040, 0xd7ff, 0xe000, 0xfeff, 0xfffd, 0xffff, 0x10000, 0x10400, 0x1f600, 0x10ffff,
}

func TestP16_1Examples(t *testing.T) {
	check(t, "the most bytes of a token", utf.MaxToken, 32)
	s, e := utf.Fold("ÄΣς")
	check(t, "folded", []any{s, e}, []any{"äσσ", api.OK})
}

func TestP16_1Valid(t *testing.T) {
	for _, s := range []string{"", "a", "é", "\x00\x7f", "\u0080\u07ff\u0800\ud7ff\ue000\ufffd\uffff\U00010000\U0010ffff", "\ufeffa", strings.Repeat("€", 5000)} {
		check(t, fmt.Sprintf("%.50q", s), utf.Valid(s), true)
	}
	for _, s := range wrong {
		check(t, fmt.Sprintf("%q", s), utf.Valid(s), false)
		check(t, fmt.Sprintf("%q behind much", s), utf.Valid(strings.Repeat("é", 5000)+s), false)
	}
	for c := range 256 {
		check(t, fmt.Sprintf("byte %d", c), utf.Valid(string([]byte{byte(c)})), c < 128)
	}
}

// lower is the small form by the library, where the document names the code point.
func lower(r rune) rune {
	switch {
	case r >= 'A' && r <= 'Z', r >= 0xc0 && r <= 0xde, r >= 0x391 && r <= 0x3a9, r >= 0x400 && r <= 0x42f:
		return unicode.ToLower(r)
	case r == 0x3c2:
		return 0x3c3
	}
	return r
}

// letters are the rows of code points that are letters, first and last.
var letters = [][2]rune{{'0', '9'}, {'A', 'Z'}, {'a', 'z'}, {0xc0, 0xd6}, {0xd8, 0xf6}, {0xf8, 0x1fff}, {0x2070, 0x2fff}, {0x3040, 0xd7ff}, {0xe000, 0x10ffff}}

func letter(r rune) bool {
	return slices.ContainsFunc(letters, func(l [2]rune) bool { return l[0] <= r && r <= l[1] })
}

// TestP16_1Lower: small forms by the document's numbers.
func TestP16_1Lower(t *testing.T) {
	for _, c := range [][2]rune{
		{'A', 'a'}, {'Z', 'z'}, {'@', '@'}, {'[', '['}, {'a', 'a'}, {'0', '0'}, {0xbf, 0xbf}, {0xc0, 0xe0}, {0xd6, 0xf6}, {0xd7, 0xd7}, {0xd8, 0xf8}, {0xde, 0xfe}, {0xdf, 0xdf}, {0xe0, 0xe0}, {0x100, 0x100}, {0x130, 0x130}, {0x178, 0x178},
		{0x386, 0x386}, {0x390, 0x390}, {0x391, 0x3b1}, {0x3a1, 0x3c1}, {0x3a2, 0x3a2}, {0x3a3, 0x3c3}, {0x3a9, 0x3c9}, {0x3aa, 0x3aa}, {0x3c1, 0x3c1}, {0x3c2, 0x3c3}, {0x3c3, 0x3c3}, {0x3ff, 0x3ff},
		{0x400, 0x450}, {0x40f, 0x45f}, {0x410, 0x430}, {0x42f, 0x44f}, {0x430, 0x430}, {0x450, 0x450}, {0x460, 0x460}, {0x1e9e, 0x1e9e}, {0x212a, 0x212a}, {0xff21, 0xff21}, {0x10400, 0x10400},
		{0xfffd, 0xfffd}, {0xd800, 0xd800}, {0xdfff, 0xdfff}, {0x10ffff, 0x10ffff}, {0x110000, 0x110000}, {-1, -1}, {-191, -191}, {math.MaxInt32, math.MaxInt32}, {math.MinInt32, math.MinInt32},
	} {
		check(t, fmt.Sprintf("the small form of %#x", c[0]), utf.Lower(c[0]), c[1])
	}
}

// TestP16_1Letter: the code points beside which letters begin and end.
func TestP16_1Letter(t *testing.T) {
	for _, l := range letters {
		check(t, fmt.Sprintf("%#x and %#x, and beside them", l[0], l[1]), []bool{utf.Letter(l[0] - 1), utf.Letter(l[0]), utf.Letter(l[1]), utf.Letter(l[1] + 1)}, []bool{false, true, true, false})
	}
	for _, r := range []rune{0, ' ', '_', '@', '\'', 0x7f, 0xaa, 0xb5, 0xba, 0xbf, 0xd7, 0xf7, 0x2000, 0x2019, 0x206f, 0x3000, 0x3005, 0x303f, 0xd800, 0xdbff, 0xdc00, 0xdfff, 0x110000, -1, -'a', 'a' - 256, math.MaxInt32, math.MinInt32} {
		check(t, fmt.Sprintf("%#x", r), utf.Letter(r), false)
	}
	for _, r := range []rune{'a', 'Z', '5', 0xdf, 0x3a2, 0x300, 0x378, 0x20ac, 0x2212, 0xfeff, 0xfffd, 0xfffe, 0x1f600} {
		check(t, fmt.Sprintf("%#x", r), utf.Letter(r), true)
	}
}

// TestP16_1All: each code point, alone and in a text.
func TestP16_1All(t *testing.T) {
	for r := rune(-300); r < 0x110200; r++ {
		if utf.Lower(r) != lower(r) || utf.Letter(r) != letter(r) {
			t.Errorf("%#x: %#x, %v", r, utf.Lower(r), utf.Letter(r))
		}
		if r < 0 || r > 0x10ffff || r >= 0xd800 && r < 0xe000 {
			continue
		}
		s, e := utf.Fold("A" + string(r) + "b")
		if want := "a" + string(lower(r)) + "b"; s != want || e != api.OK {
			t.Errorf("%#x folded: %q, %d, not %q", r, s, e, want)
		}
	}
}

func TestP16_1Fold(t *testing.T) {
	for _, c := range [][2]string{
		{"", ""}, {"Hello, WORLD 42!", "hello, world 42!"}, {"ÀÖ×ØÞß÷", "àö×øþß÷"}, {"ΑΡ\u03a2ΣΩςσΪ", "αρ\u03a2σωσσΪ"}, {"ЀЏАЯаяѐѠ", "ѐџаяаяѐѠ"}, {"ŸİĀ\ufffd\ufeff😀", "ŸİĀ\ufffd\ufeff😀"}, {"\x00@[`{\x7f", "\x00@[`{\x7f"},
		{strings.Repeat("ÉA", 3000), strings.Repeat("éa", 3000)},
	} {
		s, e := utf.Fold(c[0])
		check(t, fmt.Sprintf("%.50q folded", c[0]), []any{s, e}, []any{c[1], api.OK})
		s, e = utf.Fold(c[1])
		check(t, fmt.Sprintf("%.50q folded again", c[1]), []any{s, e}, []any{c[1], api.OK})
	}
	for _, s := range wrong {
		f, e := utf.Fold("A" + s)
		check(t, fmt.Sprintf("%q folded", s), []any{f, e}, []any{"", api.ErrText})
	}
}

func TestP16_2Tokens(t *testing.T) {
	x := strings.Repeat
	for _, c := range []struct {
		s    string
		want []string
	}{
		{"Don't, ÉTÉ×2!", []string{"don", "t", "été", "2"}},
		{"", nil},
		{" .,-_@×÷\u2026\u3002", nil},
		{"a", []string{"a"}},
		{" a ", []string{"a"}},
		{"B a B a", []string{"b", "a", "b", "a"}},
		{"snake_case x@y", []string{"snake", "case", "x", "y"}},
		{"3.14 1e9", []string{"3", "14", "1e9"}},
		{"a\u2000b\u206fc\u2070d\u3000e\u303ff\u3040g", []string{"a", "b", "c\u2070d", "e", "f\u3040g"}},
		{"Ö×ö÷Ø¿À", []string{"ö", "ö", "ø", "à"}},
		{"ΟΔΥΣΣΕΥΣ Οδυσσευς", []string{"οδυσσευσ", "οδυσσευσ"}},
		{"ЁЖ ёж", []string{"ёж", "ёж"}},
		{"naïve\x00日本語\n😀x", []string{"naïve", "日本語", "😀x"}},
		{"a\ufffdb \ufeffc", []string{"a\ufffdb", "\ufeffc"}},
		{x("A", 32), []string{x("a", 32)}},
		{x("a", 33), nil},
		{x("a", 33) + " b " + x("c", 40) + "," + x("d", 32), []string{"b", x("d", 32)}},
		{x("a", 16) + " " + x("a", 17) + "." + x("b", 64) + "!c", []string{x("a", 16), x("a", 17), "c"}},
		{x("É", 16), []string{x("é", 16)}},
		{x("É", 17), nil},
		{x("É", 15) + "ab", []string{x("é", 15) + "ab"}},
		{x("É", 16) + "a", nil},
		{x("語", 10) + "ab", []string{x("語", 10) + "ab"}},
		{x("語", 11), nil},
		{x("😀", 8) + " " + x("😀", 8) + "1", []string{x("😀", 8)}},
		{x("ab ", 3000), slices.Repeat([]string{"ab"}, 3000)},
	} {
		l, e := utf.Tokens(c.s)
		checkList(t, fmt.Sprintf("the tokens of %.100q", c.s), l, c.want)
		check(t, "no error", e, api.OK)
	}
	for _, s := range wrong {
		l, e := utf.Tokens("word " + s)
		check(t, fmt.Sprintf("the tokens of %q", s), []any{len(l), e}, []any{0, api.ErrText})
	}
}

// someText is any text, of UTF-8 or not; code points at the edges come often.
func someText(r *rand.Rand, most int, broken bool) string {
	s := ""
	for range r.Intn(most + 1) {
		switch c := r.Intn(8); {
		case c == 0 && broken:
			s += string([]byte{byte(r.Intn(256))})
		case c < 3:
			s += string(edges[r.Intn(len(edges))])
		case c < 5:
			s += " @@_a9AÉ×"[r.Intn(8):][:1]
		case c < 6:
			s += strings.Repeat(string(edges[r.Intn(len(edges))]), r.Intn(18))
		default:
			s += "abcé ÉΣ@"[:1+r.Intn(11)]
		}
	}
	if !broken {
		s = strings.ToValidUTF8(s, "-")
	}
	return s
}

// words are the tokens of UTF-8 from code point to code point.
func words(s string) []string {
	var l []string
	w := ""
	for _, r := range s + " " {
		if letter(r) {
			w += string(lower(r))
			continue
		}
		if w != "" && len(w) <= 32 {
			l = append(l, w)
		}
		w = ""
	}
	return l
}

// TestP16_2Any: any texts against a second reading.
func TestP16_2Any(t *testing.T) {
	r := rand.New(rand.NewSource(162))
	for range 30000 {
		s := someText(r, 12, r.Intn(4) == 0)
		valid := string([]rune(s)) == s
		check(t, fmt.Sprintf("%q: is it UTF-8", s), utf.Valid(s), valid)
		folded, want, e := "", []string(nil), api.ErrText
		if valid {
			folded, want, e = strings.Map(lower, s), words(s), api.OK
		}
		f, err := utf.Fold(s)
		check(t, fmt.Sprintf("%q folded", s), []any{f, err}, []any{folded, e})
		l, err := utf.Tokens(s)
		checkList(t, fmt.Sprintf("the tokens of %q", s), l, want)
		check(t, fmt.Sprintf("the tokens of %q", s), err, e)
	}
}

func TestP16_3Name(t *testing.T) {
	for _, s := range []string{"a", "z", "ann", "a_1", "a_", "a9", "a0_z", "abcdefghijklmnop", "z_______________", "a234567890123456"} {
		check(t, fmt.Sprintf("%q", s), utf.Name(s), true)
	}
	for _, s := range []string{"", "_a", "Ann", "9", "0a", "_", "aB", "A", "a b", " a", "a ", "a-b", "a.b", "a@", "@a", "aé", "é", "a\x00", "\x00", "a\n", "a\xff", "\xffa", "`", "{", "a/", "a:", "a^", "abcdefghijklmnopq", "a2345678901234567", "1234567890123456", "a23456789012345é", strings.Repeat("a", 5000)} {
		check(t, fmt.Sprintf("%.50q", s), utf.Name(s), false)
	}
	for c := range 256 {
		b := string([]byte{byte(c)})
		small, other := c >= 'a' && c <= 'z', c >= '0' && c <= '9' || c == '_'
		check(t, fmt.Sprintf("byte %d", c), []bool{utf.Name(b), utf.Name("x" + b), utf.Name("x" + b + "x"), utf.Name(b + "x")}, []bool{small, small || other, small || other, small})
	}
}

func TestP16_3Mentions(t *testing.T) {
	for _, c := range []struct{ s, want string }{
		{"@ann, x@bob @" + "@cy @ann @_d @9 @eve's", "ann eve"},
		{"", ""},
		{"@", ""},
		{"ann", ""},
		{"@ann", "ann"},
		{"@@ann", ""},
		{"@@@ann", ""},
		{"@ @ann", "ann"},
		{"@,@ann@bob", "ann"},
		{"@b @a @b @c @a", "b a c"},
		{"@an @ann @a", "an ann a"},
		{"x@a _@b 9@c z@d", ""},
		{"X@a é@b .@c \n@d \x00@e \xff@f -@g", "a b c d e f g"},
		{"@Ann", ""},
		{"@aNN @bÉ @c-d @e.f @g@h", "a b c e g"},
		{"@ann_1 @a9_ @0a @_", "ann_1 a9_"},
		{"@abcdefghijklmnop", "abcdefghijklmnop"},
		{"@abcdefghijklmnopq", ""},
		{"@abcdefghijklmnopQ", "abcdefghijklmnop"},
		{"@abcdefghijklmnopq @b", "b"},
		{"@ann\xff@bob\xc3@cy", "ann bob cy"},
		{"(@ann)", "ann"},
		{"mail ann@example.com, @bob.", "bob"},
		{"@" + strings.Repeat("a", 5000), ""},
		{strings.Repeat("@", 5000) + "a", ""},
		{strings.Repeat("@a ", 5000), "a"},
		{"@9 @a9 @9a", "a9"},
		{"@a`@b{@c:@d/@e^@f", "a b c d e f"},
	} {
		checkList(t, fmt.Sprintf("the mentions of %.100q", c.s), utf.Mentions(c.s), strings.Fields(c.want))
	}
	for c := range 256 {
		b := string([]byte{byte(c)})
		ofName := c >= 'a' && c <= 'z' || c >= '0' && c <= '9' || c == '_'
		ahead, within := []string{"ann"}, []string{"x"}
		if ofName || c == '@' {
			ahead = nil
		}
		if ofName {
			within = []string{"x" + b + "y"}
		}
		checkList(t, fmt.Sprintf("byte %d ahead of an @", c), utf.Mentions(b+"@ann"), ahead)
		checkList(t, fmt.Sprintf("byte %d within a mention", c), utf.Mentions("@x"+b+"y"), within)
	}
}

// A name, and an @ with what stands behind it, by the document's words.
var (
	aName  = regexp.MustCompile(`^[a-z][a-z0-9_]{0,15}$`)
	anAt   = regexp.MustCompile(`(?:^|[^@a-z0-9_])@([a-z0-9_]*)`)
	pieces = []string{"@", "@", "@a", "@b1", "ann", "a", "_", "9", " ", ",", "A", "é", "\xff", "\xc3", "abcdefghijklmno"}
)

// TestP16_3Any: any texts against a second reading.
func TestP16_3Any(t *testing.T) {
	r := rand.New(rand.NewSource(163))
	for range 50000 {
		s := ""
		for range r.Intn(9) {
			s += pieces[r.Intn(len(pieces))]
		}
		check(t, fmt.Sprintf("%q", s), utf.Name(s), aName.MatchString(s))
		var want []string
		for _, m := range anAt.FindAllStringSubmatch(s, -1) {
			if aName.MatchString(m[1]) && !slices.Contains(want, m[1]) {
				want = append(want, m[1])
			}
		}
		checkList(t, fmt.Sprintf("the mentions of %q", s), utf.Mentions(s), want)
	}
}

func TestP16_4Cut(t *testing.T) {
	for _, c := range []struct {
		s    string
		n    int
		want string
	}{
		{"aé", 2, "a"},
		{"aé", 3, "aé"},
		{"é", -1, ""},
		{"", 0, ""},
		{"", 5, ""},
		{"", -5, ""},
		{"abc", 0, ""},
		{"abc", 2, "ab"},
		{"abc", 3, "abc"},
		{"abc", 4, "abc"},
		{"abc", math.MaxInt, "abc"},
		{"abc", math.MinInt, ""},
		{"é", 1, ""},
		{"éé", 2, "é"},
		{"éé", 3, "é"},
		{"a€b", 3, "a"},
		{"a€b", 4, "a€"},
		{"€€", 5, "€"},
		{"😀😀", 7, "😀"},
		{"😀", 3, ""},
		{"\xff\xff\xff", 2, "\xff\xff"},
		{"a\x80\x80\x80", 2, ""},
		{"ab\x80\x80\x80", 4, "a"},
		{"ab\x80\x80\x80", 5, "ab\x80\x80\x80"},
		{"ab\xbf", 2, "a"},
		{"ab\xc0", 2, "ab"},
		{"ab\x7f", 2, "ab"},
		{"\xe2\x82c", 2, "\xe2\x82"},
		{"é\xc3", 2, "é"},
		{"a" + strings.Repeat("\x80", 5000), 4000, ""},
		{strings.Repeat("é", 5000), 9999, strings.Repeat("é", 4999)},
	} {
		check(t, fmt.Sprintf("%d of %.50q", c.n, c.s), fmt.Sprintf("%q", utf.Cut(c.s, c.n)), fmt.Sprintf("%q", c.want))
	}
}

// TestP16_4Any: the longest beginning that fits and doesn't end within a code point; of UTF-8 it is UTF-8.
func TestP16_4Any(t *testing.T) {
	r := rand.New(rand.NewSource(164))
	for range 20000 {
		s := someText(r, 6, r.Intn(2) == 0)
		for n := -1; n <= len(s)+1; n++ {
			want := ""
			for k := range len(s) + 1 {
				if k <= n && (k == len(s) || s[k] < 0x80 || s[k] > 0xbf) {
					want = s[:k]
				}
			}
			got := utf.Cut(s, n)
			if got != want || utf.Valid(s) && !utf.Valid(got) {
				t.Errorf("%d of %q: %q, not %q", n, s, got, want)
			}
		}
	}
}

// TestP16Memory: the lists of two answers share nothing, and the same call is answered in the same way.
func TestP16Memory(t *testing.T) {
	s := "@b @a one two @b"
	for range 3 {
		tokens, e := utf.Tokens(s)
		mentions := utf.Mentions(s)
		checkList(t, "tokens", tokens, []string{"b", "a", "one", "two", "b"})
		checkList(t, "mentions", mentions, []string{"b", "a"})
		check(t, "no error", e, api.OK)
		for _, l := range [][]string{tokens, mentions} {
			l = l[:cap(l)]
			for i := range l {
				l[i] = "overwritten"
			}
		}
	}
}

package json_test

import (
	stdjson "encoding/json"
	"fmt"
	"math/rand"
	"regexp"
	"slices"
	"strconv"
	"strings"
	"testing"
	"unicode/utf8"

	"parley/api"
	"parley/json"
)

// What stands for itself in a text, by the document's words.
var (
	word   = regexp.MustCompile(`^(null|false|true)`)
	digits = regexp.MustCompile(`^-?[0-9]+`)
	whole  = regexp.MustCompile(`^(0|-?[1-9][0-9]{0,15})$`)
	quoted = regexp.MustCompile(`^"([^"\\\x00-\x1f]|\\["\\/bfnrt]|\\u([0-9a-cA-Ce-fE-F][0-9a-fA-F]{3}|[dD][0-7][0-9a-fA-F]{2}|[dD][89abAB][0-9a-fA-F]{2}\\u[dD][c-fC-F][0-9a-fA-F]{2}))*"`)
)

// scalar reads the value at the beginning of s that is no container, and how long it is; 0: there is none.
func scalar(s string) (api.J, int) {
	if w := word.FindString(s); w != "" {
		return api.J{Kind: map[string]int{"null": 0, "false": 1, "true": 2}[w]}, len(w)
	}
	if d := digits.FindString(s); whole.MatchString(d) {
		n, _ := strconv.Atoi(d)
		if n < -1<<53 || n > 1<<53 {
			return api.J{}, 0
		}
		return number(n), len(d)
	}
	if q := quoted.FindString(s); q != "" && utf8.ValidString(q) {
		var v string
		if stdjson.Unmarshal([]byte(q), &v) != nil {
			return api.J{}, 0
		}
		return text(v), len(q)
	}
	return api.J{}, 0
}

// What may come next.
const (
	aValue  = iota
	aFirst  // a value, or the array's end
	aKey    // of an object
	aName   // a key, or the object's end
	aColon  // behind a key
	aComma  // or the container's end
	nothing // the text is whole
)

// slow is a second reading of Parse: from byte to byte, with the list of the containers that are open.
func slow(s string) (api.J, api.Errno) {
	if len(s) > 4096 {
		return api.J{}, api.ErrBig
	}
	open, begun, next, i := []api.J{{}}, 0, aValue, 0
	done := func(v api.J) { // a value ends: it goes into its container
		top := &open[len(open)-1]
		top.List = append(top.List, v)
		next = aComma
		if len(open) == 1 {
			next = nothing
		}
	}
	for {
		for i < len(s) && strings.ContainsRune(" \t\n\r", rune(s[i])) {
			i++
		}
		c := byte(0)
		if i < len(s) {
			c = s[i]
		}
		begins := next == aValue || next == aFirst && c != ']'
		top := &open[len(open)-1]
		switch {
		case begins && begun == 2000, begins && (c == '[' || c == '{') && len(open) == 17:
			return api.J{}, api.ErrBig
		case i == len(s) && next == nothing:
			return open[0].List[0], api.OK
		case begins && c == '[':
			begun, next, i, open = begun+1, aFirst, i+1, append(open, api.J{Kind: 5})
		case begins && c == '{':
			begun, next, i, open = begun+1, aName, i+1, append(open, api.J{Kind: 6})
		case begins:
			v, n := scalar(s[i:])
			if n == 0 {
				return api.J{}, api.ErrText
			}
			begun, i = begun+1, i+n
			done(v)
		case next == aFirst, next == aComma && top.Kind == 5 && c == ']', (next == aName || next == aComma && top.Kind == 6) && c == '}':
			v := *top
			open, i = open[:len(open)-1], i+1
			done(v)
		case next == aComma && c == ',':
			next, i = aValue, i+1
			if top.Kind == 6 {
				next = aKey
			}
		case next == aColon && c == ':':
			next, i = aValue, i+1
		case next == aKey || next == aName:
			k, n := scalar(s[i:])
			if c != '"' || n == 0 || slices.Contains(top.Keys, k.Str) {
				return api.J{}, api.ErrText
			}
			top.Keys = append(top.Keys, k.Str)
			next, i = aColon, i+n
		default:
			return api.J{}, api.ErrText
		}
	}
}

// anyText is any UTF-8; code points at the edges come often.
func anyText(r *rand.Rand, most int) string {
	var b []byte
	for range r.Intn(most + 1) {
		switch r.Intn(4) {
		case 0:
			b = append(b, byte(r.Intn(32)))
		case 1:
			b = append(b, "\"\\/ab\x7f"[r.Intn(6)])
		case 2:
			l := []rune{0x80, 0x7ff, 0x800, 0xd7ff, 0xe000, 0xfffd, 0xffff, 0x10000, 0x10ffff, 0x2028, 0xfeff}
			b = utf8.AppendRune(b, l[r.Intn(len(l))])
		default:
			b = append(b, byte(' '+r.Intn(95)))
		}
	}
	return string(b)
}

// anyValue is any value of few containers within one another; lists are short.
func anyValue(r *rand.Rand, depth int) api.J {
	kind := r.Intn(7)
	if depth == 0 {
		kind = r.Intn(5)
	}
	j := api.J{Kind: kind}
	switch kind {
	case 3:
		j.Num = (r.Intn(1<<53+1) >> r.Intn(54)) * (1 - 2*r.Intn(2))
	case 4:
		j.Str = anyText(r, 6)
	case 6:
		for range r.Intn(4) {
			if k := anyText(r, 3); !slices.Contains(j.Keys, k) {
				j.Keys = append(j.Keys, k)
			}
		}
		for range j.Keys {
			j.List = append(j.List, anyValue(r, depth-1))
		}
	case 5:
		for range r.Intn(4) {
			j.List = append(j.List, anyValue(r, depth-1))
		}
	}
	return j
}

// blank is a few blanks, often none.
func blank(r *rand.Rand) string {
	return strings.Repeat(" \t\n\r"[r.Intn(4):][:1], max(0, r.Intn(6)-3))
}

// spell writes a text of a value in any of its ways.
func spell(r *rand.Rand, j api.J) string {
	s := ""
	switch j.Kind {
	case 0, 1, 2:
		s = []string{"null", "false", "true"}[j.Kind]
	case 3:
		s = strconv.Itoa(j.Num)
	case 4:
		s = spellText(r, j.Str)
	default:
		var l []string
		for i, v := range j.List {
			v := spell(r, v)
			if j.Kind == 6 {
				v = blank(r) + spellText(r, j.Keys[i]) + blank(r) + ":" + v
			}
			l = append(l, v)
		}
		s = "[{"[j.Kind-5:][:1] + blank(r) + strings.Join(l, ",") + "]}"[j.Kind-5:][:1]
	}
	return blank(r) + s + blank(r)
}

func spellText(r *rand.Rand, s string) string {
	b := `"`
	for _, c := range s {
		i := strings.IndexRune("\"\\/\b\f\n\r\t", c)
		switch {
		case i >= 0 && r.Intn(2) == 0:
			b += `\` + `"\/bfnrt`[i:][:1]
		case c > 0xffff && r.Intn(2) == 0:
			b += fmt.Sprintf(`\u%04x\u%04X`, 0xd800+(c-0x10000)>>10, 0xdc00+(c-0x10000)&0x3ff)
		case c <= 0xffff && (c < 32 || c == '"' || c == '\\' || r.Intn(3) == 0):
			b += fmt.Sprintf([]string{`\u%04x`, `\u%04X`}[r.Intn(2)], c)
		default:
			b += string(c)
		}
	}
	return b + `"`
}

// checkSlow holds Parse against its second reading.
func checkSlow(t *testing.T, s string) {
	t.Helper()
	j, e := slow(s)
	checkParse(t, s, j, e)
}

func TestP15_1Any(t *testing.T) {
	r := rand.New(rand.NewSource(151))
	for range 20000 {
		j := anyValue(r, 4)
		s := spell(r, j)
		if len(s) > 4096 {
			continue
		}
		checkParse(t, s, j, api.OK)
		checkSlow(t, s)
		for range 3 {
			checkSlow(t, spoil(r, s))
		}
	}
}

// spoil changes a text at some place.
func spoil(r *rand.Rand, s string) string {
	i := r.Intn(len(s) + 1)
	k := min(len(s), i+r.Intn(3))
	return s[:i] + []string{"", soup(r, 1), string([]byte{byte(r.Intn(256))}), s[:i]}[r.Intn(4)] + s[k:]
}

// soup is a row of pieces of texts.
func soup(r *rand.Rand, n int) string {
	pieces := []string{"[", "]", "{", "}", ",", ":", `"a"`, `"b"`, `"a":`, `"b":`, "1", "0", "-", "-1", "9007199254740992", "9007199254740993", "null", "true", "false", "nul", " ", "\n", `"`, `\`, `\ud800`, `\udc00`, `\u0061`, "é", "\xff", "\x00", ".5", "e1", "[]", "{}", ",1", `,"c":1`}
	s := ""
	for range n {
		s += pieces[r.Intn(len(pieces))]
	}
	return s
}

// TestP15_1Soup: any rows of pieces, behind many values or deep within others, where the limits are near.
func TestP15_1Soup(t *testing.T) {
	r := rand.New(rand.NewSource(1511))
	for range 40000 {
		checkSlow(t, soup(r, r.Intn(8)))
		checkSlow(t, "["+soup(r, r.Intn(8))+"]")
		checkSlow(t, `{"x":`+soup(r, r.Intn(8))+"}")
	}
	for range 500 {
		items := "[" + strings.Repeat("1,", 1994+r.Intn(6))
		checkSlow(t, items+soup(r, r.Intn(8)))
		checkSlow(t, items+soup(r, r.Intn(5))+"]")
		checkSlow(t, items+strings.Repeat("[", r.Intn(5))+soup(r, r.Intn(4)))
	}
	for range 5000 {
		checkSlow(t, strings.Repeat("[", 13+r.Intn(4))+soup(r, r.Intn(8)))
		checkSlow(t, within(13+r.Intn(3), soup(r, r.Intn(5))))
		checkSlow(t, strings.Repeat(`{"a":`, 12+r.Intn(5))+soup(r, r.Intn(8)))
	}
}

// spoiled puts what has no meaning into a value.
func spoiled(r *rand.Rand, j api.J) api.J {
	l := j.List
	if j.Kind < 5 {
		l = junk(0, r.Intn(4)).List
	}
	s := api.J{Kind: j.Kind, Num: r.Int(), Str: "\xff", List: slices.Clone(l), Keys: slices.Clone(j.Keys)}
	switch j.Kind {
	case 3:
		s.Num = j.Num
	case 4:
		s.Str = j.Str
	}
	if j.Kind < 6 {
		s.Keys = []string{"\xff", "a", "a"}
	}
	for i := range s.List {
		if j.Kind >= 5 {
			s.List[i] = spoiled(r, s.List[i])
		}
	}
	return s
}

// short writes the text of a value that Print is to answer.
func short(j api.J) string {
	switch j.Kind {
	case 0, 1, 2:
		return []string{"null", "false", "true"}[j.Kind]
	case 3:
		return strconv.Itoa(j.Num)
	case 4:
		return shortText(j.Str)
	}
	var l []string
	for i, v := range j.List {
		k := ""
		if j.Kind == 6 {
			k = shortText(j.Keys[i]) + ":"
		}
		l = append(l, k+short(v))
	}
	return "[{"[j.Kind-5:][:1] + strings.Join(l, ",") + "]}"[j.Kind-5:][:1]
}

func shortText(s string) string {
	s = strings.ReplaceAll(strings.ReplaceAll(s, `\`, `\\`), `"`, `\"`)
	for c := range 32 {
		s = strings.ReplaceAll(s, string(rune(c)), fmt.Sprintf(`\u%04x`, c))
	}
	return `"` + s + `"`
}

// TestP15_2Any: of any values the text, and the value back; what has no meaning makes no difference.
func TestP15_2Any(t *testing.T) {
	r := rand.New(rand.NewSource(1521))
	for range 10000 {
		j := anyValue(r, 5)
		want, e := short(j), api.OK
		if len(want) > 4096 {
			want, e = "", api.ErrBig
		}
		for _, v := range []api.J{j, spoiled(r, j)} {
			s, err := json.Print(v)
			check(t, "printed", []any{s, err}, []any{want, e})
		}
		if e == api.OK {
			checkParse(t, want, j, api.OK)
			checkSlow(t, want)
		}
		got, ok := json.Get(api.J{Kind: 6, Keys: []string{"a"}, List: []api.J{spoiled(r, j)}}, "a")
		if !ok || !same(got, j) {
			t.Fatalf("Get: %+v, not %+v", got, j)
		}
	}
}

// TestP15_2Back: what Parse answers is printed, and is read from that again.
func TestP15_2Back(t *testing.T) {
	for _, s := range []string{"[" + strings.Repeat("1,", 1998) + "1]", within(16, "1"), `{"a":[{},{"b":""}]}`, `"` + strings.Repeat("x", 4094) + `"`} {
		j, e := json.Parse(s)
		p, err := json.Print(j)
		if e != api.OK || err != api.OK || p != s {
			t.Errorf("%.50q: %d, %.50q, %d", s, e, p, err)
		}
	}
}

// roomy copies a value: each list has spare room, which is full of junk.
func roomy(j api.J) api.J {
	var l []api.J
	for _, v := range j.List {
		l = append(l, roomy(v))
	}
	n, m := len(j.List), len(j.Keys)
	j.List = append(append(l, junk(3, 2)), junk(4, 2))[:n]
	j.Keys = append(append(slices.Clone(j.Keys), "spare"), "room")[:m]
	return j
}

// memory writes all that a value's lists hold, the spare room of these lists too.
func memory(j api.J) string {
	s := fmt.Sprintf("%d %d %q %q [", j.Kind, j.Num, j.Str, j.Keys[:cap(j.Keys)])
	for _, v := range j.List[:cap(j.List)] {
		s += memory(v)
	}
	return s + "]"
}

// overwrite changes all that an answer's lists hold, spare room too.
func overwrite(j api.J) {
	for i := range j.Keys[:cap(j.Keys)] {
		j.Keys[:cap(j.Keys)][i] = "overwritten"
	}
	for i := range j.List[:cap(j.List)] {
		overwrite(j.List[:cap(j.List)][i])
		j.List[:cap(j.List)][i] = text("overwritten")
	}
}

// TestP15_4Memory: nothing that is handed in changes, and answers share nothing.
func TestP15_4Memory(t *testing.T) {
	r := rand.New(rand.NewSource(154))
	for range 300 {
		v, w := anyValue(r, 3), anyValue(r, 3)
		j := roomy(api.J{Kind: 6, Keys: []string{"v", "w"}, List: []api.J{spoiled(r, v), w}})
		held := memory(j)
		s, e := json.Print(j)
		a, _ := json.Get(j, "v")
		b, _ := json.Get(j, "v")
		p, err := json.Parse(s)
		q, _ := json.Parse(s)
		check(t, "behind the calls", memory(j), held)
		overwrite(a)
		check(t, "behind a change of an answer", memory(j), held)
		if !same(b, v) {
			t.Fatalf("a second answer: %+v, not %+v", b, v)
		}
		overwrite(p)
		if e == api.OK && (err != api.OK || !same(q.List[0], v) || !same(q.List[1], w)) {
			t.Fatalf("Parse of %s: %+v", s, q)
		}
	}
}

// TestP15_4Lists: no two lists of one answer share room.
func TestP15_4Lists(t *testing.T) {
	s := `[[1,2,3],[1,2,3,4,5],{"a":1,"b":2,"c":3},[[],[]],[]]`
	for i := range 5 {
		p, _ := json.Parse(s)
		g, _ := json.Get(api.J{Kind: 6, Keys: []string{"a"}, List: []api.J{p}}, "a")
		for _, j := range []api.J{p, g} {
			overwrite(j.List[i])
			want, _ := json.Parse(s)
			for k := range 5 {
				if k != i && !same(j.List[k], want.List[k]) {
					t.Errorf("list %d behind a change of list %d: %+v", k, i, j.List[k])
				}
			}
		}
	}
}

// TestP15_4Again: the same call is answered in the same way.
func TestP15_4Again(t *testing.T) {
	j, e := json.Parse(`{"a":1,"b":[2],"a":3}`)
	check(t, "an error", []any{j, e}, []any{null, api.ErrText})
	for range 20 {
		checkParse(t, `{"b":0,"a":1,"c":2}`, object("b", "a", "c"), api.OK)
		s, _ := json.Print(object("z", "y", "x", "w"))
		check(t, "printed again", s, `{"z":0,"y":1,"x":2,"w":3}`)
	}
}

package json_test

import (
	"fmt"
	"math"
	"math/rand"
	"slices"
	"strings"
	"testing"

	"parley/api"
	"parley/json"
)

func check(t *testing.T, what string, got, want any) {
	t.Helper()
	if g, w := fmt.Sprintf("%+v", got), fmt.Sprintf("%+v", want); g != w {
		t.Errorf("%s: %.500s, not %.500s", what, g, w)
	}
}

var (
	null  = api.J{Kind: 0}
	no    = api.J{Kind: 1}
	yes   = api.J{Kind: 2}
	one   = number(1)
	empty = array()
)

func number(n int) api.J {
	return api.J{Kind: 3, Num: n}
}

func text(s string) api.J {
	return api.J{Kind: 4, Str: s}
}

func array(l ...api.J) api.J {
	return api.J{Kind: 5, List: l}
}

// object is an object of these keys, whose values are the numbers from 0 on.
func object(keys ...string) api.J {
	j := api.J{Kind: 6, Keys: keys}
	for i := range keys {
		j.List = append(j.List, number(i))
	}
	return j
}

// deep is a value within so many arrays.
func deep(n int, j api.J) api.J {
	for range n {
		j = array(j)
	}
	return j
}

// within is a text within so many arrays.
func within(n int, s string) string {
	return strings.Repeat("[", n) + s + strings.Repeat("]", n)
}

// same tells whether two values have the same fields; a list that is nil and an empty one are the same.
func same(a, b api.J) bool {
	return a.Kind == b.Kind && a.Num == b.Num && a.Str == b.Str && slices.Equal(a.Keys, b.Keys) && slices.EqualFunc(a.List, b.List, same)
}

// checkParse holds the answer of Parse against a value, or an error with no value.
func checkParse(t *testing.T, s string, want api.J, err api.Errno) {
	t.Helper()
	if j, e := json.Parse(s); e != err || !same(j, want) {
		t.Errorf("Parse of %.200q (%d bytes): %.300v, %d; not %.300v, %d", s, len(s), fmt.Sprint(j), e, fmt.Sprint(want), err)
	}
}

func TestP15_1Examples(t *testing.T) {
	check(t, "the kinds", []int{json.Null, json.False, json.True, json.Number, json.String, json.Array, json.Object}, []int{0, 1, 2, 3, 4, 5, 6})
	check(t, "the greatest number", json.MaxNumber, 9007199254740992)
	want := api.J{Kind: 6, Keys: []string{"a"}, List: []api.J{array(one, number(-2), text("é"))}}
	checkParse(t, " {\"a\": [1, -2, \"\\u00e9\"]} ", want, api.OK)
	s, e := json.Print(want)
	check(t, "printed", []any{s, e}, []any{`{"a":[1,-2,"é"]}`, api.OK})
	for _, s := range []string{"01", "-0", "1.5", "1e3", "[1,]", `{"a":1,"a":2}`, `"\ud800"`, "nul", ""} {
		checkParse(t, s, null, api.ErrText)
	}
	checkParse(t, within(17, ""), null, api.ErrBig)
	check(t, "a line end", json.Quote("\n"), `"\u000a"`)
}

// TestP15_1Texts: each kind of value, its edges, and blanks wherever they may stand.
func TestP15_1Texts(t *testing.T) {
	for _, c := range []struct {
		s    string
		want api.J
	}{
		{"null", null},
		{"false", no},
		{"true", yes},
		{" \t\n\r true\r\n\t ", yes},
		{"0", number(0)},
		{"9", number(9)},
		{"10", number(10)},
		{"-1", number(-1)},
		{"-10", number(-10)},
		{"1234567890", number(1234567890)},
		{"9007199254740991", number(1<<53 - 1)},
		{"9007199254740992", number(1 << 53)},
		{"-9007199254740992", number(-1 << 53)},
		{`""`, text("")},
		{`"a b"`, text("a b")},
		{`" \u0020 "`, text("   ")},
		{`"\"\\\/\b\f\n\r\t"`, text("\"\\/\b\f\n\r\t")},
		{`"'/"`, text("'/")},
		{"\"\x7f\"", text("\x7f")},
		{`"\u0000\u001f"`, text("\x00\x1f")},
		{`"\u0041\u00e9\u20AC\uaBcD\uFFFD\uffff"`, text("A\u00e9\u20ac\uabcd\ufffd\uffff")},
		{`"\ud7ff\ue000"`, text("\ud7ff\ue000")},
		{`"\ud800\udc00"`, text("\U00010000")},
		{`"\uDBFF\uDFFF"`, text("\U0010ffff")},
		{`"\ud83d\ude00x"`, text("\U0001f600x")},
		{`"\uD834\udd1E\ud834\uDD1E"`, text("\U0001d11e\U0001d11e")},
		{`"\\ud800"`, text(`\ud800`)},
		{`"\u005cu0041"`, text(`\u0041`)},
		{`"\u00411"`, text("A1")},
		{"\"\u0080\u07ff\u0800\ud7ff\ue000\ufeff\ufffd\uffff\U00010000\U0010ffff\u2028\"", text("\u0080\u07ff\u0800\ud7ff\ue000\ufeff\ufffd\uffff\U00010000\U0010ffff\u2028")},
		{"[]", empty},
		{"[ \r\n\t]", empty},
		{"[1]", array(one)},
		{"\n[\r1\t, \"x\" ,null , [ ] ]", array(one, text("x"), null, empty)},
		{"[[],[[]],{}]", array(empty, array(empty), object())},
		{"[true,false,null,0,\"\"]", array(yes, no, null, number(0), text(""))},
		{"{}", object()},
		{"{\t}", object()},
		{`{"":0}`, object("")},
		{"\r{ \"a\"\n:\t0 , \"b\":1\r}", object("a", "b")},
		{`{"b":0,"a":1,"B":2,"":3," ":4}`, object("b", "a", "B", "", " ")},
		{`{"\u0061b":0,"\ud83d\ude00":1,"a\"\\":2,"\u0000":3}`, object("ab", "\U0001f600", `a"\`, "\x00")},
		{`{"a":{"a":[{"a":0}]}}`, api.J{Kind: 6, Keys: []string{"a"}, List: []api.J{{Kind: 6, Keys: []string{"a"}, List: []api.J{array(object("a"))}}}}},
		{`[{"a":0},{"a":0}]`, array(object("a"), object("a"))},
	} {
		checkParse(t, c.s, c.want, api.OK)
		checkParse(t, " "+c.s+"\n", c.want, api.OK)
		checkParse(t, "["+c.s+"]", array(c.want), api.OK)
	}
}

// TestP15_1Wrong: what is no text.
func TestP15_1Wrong(t *testing.T) {
	for _, s := range []string{
		" ", "\n\t\r ", "n", "nulL", "Null", "NULL", "nullx", "null null", "true1", "fals", "falsetrue", "tru e", "undefined", "NaN", "Infinity", "x", "'a'", "//", "/**/1",
		"\v1", "\f1", "\u00a01", "1\x00", "\x001", "\ufeff1", "1\v", "\x85",
		"-", "+1", "--1", "- 1", "-a", "00", "007", "-01", "-00", "1.", ".5", "1.0", "-0.0", "0.1", "1e0", "1E5", "0e1", "1e", "0x10", "1_000", "1 2", "1,2", "1,", ",1", "٣", "1-", "1+1",
		"9007199254740993", "-9007199254740993", "9007199254740992.0", "9007199254741000", "90071992547409920", "10000000000000000", "18446744073709551617", "-18446744073709551616", "9223372036854775808", strings.Repeat("9", 400), "1" + strings.Repeat("0", 4000),
		`"`, `"a`, `a"`, `"a"b`, `"a""b"`, `"\"`, `"\`, `"\\`, `"\x"`, `"\a"`, `"\v"`, `"\0"`, `"\'"`, `"\N"`, `"\U0041"`, "\"\\\n\"", "\"\\\x00\"", "\"\\\xe9\"",
		"\"\n\"", "\"\x00\"", "\"\x1f\"", "\"a\tb\"",
		`"\u"`, `"\u1"`, `"\u12"`, `"\u123"`, `"\u123`, `"\u12g4"`, `"\u+123"`, `"\u-123"`, `"\u 123"`, `"\u0x1"`, `"\u1_23"`, `"\u{41}"`, `"\u00é9"`,
		`"\ud800"`, `"\udbff`, `"\ud800x"`, `"\ud800\n"`, `"\ud800\"`, `"\ud800\u"`, `"\ud800\udc"`, `"\ud800\u0041"`, `"\ud800\ud800"`, `"\ud800\udbff"`, `"\ud800\ue000"`, `"\ud800\ud800\udc00"`, `"\ud800 \udc00"`, `"\ud800udc00"`, `"\ud800\\dc00"`,
		`"\udc00"`, `"\udfff"`, `"\uDC00\uD800"`, `"\udc00\udc00"`, `"\ud800\udc00\udc00"`, `"a\udfff"`,
		"\"\xff\"", "\"\x80\"", "\"\xc3\"", "\"\xc3", "\"\xc0\xaf\"", "\"\xe0\x80\xaf\"", "\"\xed\xa0\x80\"", "\"\xed\xa0\xbd\xed\xb8\x80\"", "\"\xf4\x90\x80\x80\"", "\"\xf0\x82\x82\xac\"", "\"\xf8\x88\x80\x80\x80\"", "\"\xe2\x82\"", "\xff", "[\xff]", "1\xff", "{\xff:1}", "{\"\xff\":1}", "\"a\"\xff",
		"[", "]", "[1", "[1,", "[1 2]", "[,]", "[,1]", "[1,]", "[1,,2]", "[1;2]", "[1:2]", "[]]", "[[]", "[}", "[1}", "[]1", "[] []", "[1].", "(1)", "[\"a\":1]", "[\"a]", "[tru]",
		"{", "}", "{]", "{1:2}", "{a:1}", "{'a':1}", "{null:1}", "{[]:1}", `{"a"}`, `{"a":}`, `{"a",1}`, `{"a" 1}`, `{"a"::1}`, `{"a":1,}`, `{,"a":1}`, `{"a":1,,"b":1}`, `{"a":1 "b":1}`, `{"a":1:"b":1}`, `{"a":1`, `{"a":1,`, `{"a":`, `{"a"`, `{"a`, `{"a":1}}`, `{"a":1]`, `{"a":1;"b":1}`, `{"a":1,1}`, `{,}`, `{"a":01}`, `{:1}`, `{"\ud800":1}`,
		`{"a":1,"b":2,"a":1}`, `{"a":1,"\u0061":2}`, `{"":1,"":1}`, `{"x":{"a":1,"a":1}}`, `[{"a":1,"a":1}]`, `{"a":{},"a":[]}`, `{"\/":1,"/":1}`, `{"\ud83d\ude00":1,"` + "\U0001f600" + `":1}`,
	} {
		checkParse(t, s, null, api.ErrText)
	}
}

// TestP15_1Bytes: of any single byte that stands between others.
func TestP15_1Bytes(t *testing.T) {
	for c := range 256 {
		b := string([]byte{byte(c)})
		want := api.ErrText
		if strings.Contains(" \t\n\r", b) {
			want = api.OK
		}
		_, e := json.Parse("null" + b)
		check(t, fmt.Sprintf("byte %d behind a value", c), e, want)
		_, e = json.Parse(b + "null")
		check(t, fmt.Sprintf("byte %d ahead of a value", c), e, want)
		if c < 32 || c >= 128 || strings.Contains(`"\`, b) {
			checkParse(t, `"a`+b+`#"`, null, api.ErrText)
		} else {
			checkParse(t, `"a`+b+`#"`, text("a"+b+"#"), api.OK)
		}
		if i := strings.Index(`"\/bfnrt`, b); i >= 0 {
			checkParse(t, `"\`+b+`"`, text("\"\\/\b\f\n\r\t"[i:i+1]), api.OK)
		} else {
			checkParse(t, `"\`+b+`"`, null, api.ErrText)
		}
	}
}

// TestP15_1Units: of each number behind a \u, alone and as each half of a pair.
func TestP15_1Units(t *testing.T) {
	for c := range rune(0x10000) {
		s := fmt.Sprintf(`\u%04x`, c)
		if c%2 == 1 {
			s = fmt.Sprintf(`\u%04X`, c)
		}
		first, second := c >= 0xd800 && c <= 0xdbff, c >= 0xdc00 && c <= 0xdfff
		ok := func(want string, good bool) (api.J, api.Errno) {
			if !good {
				return null, api.ErrText
			}
			return text(want), api.OK
		}
		j, e := ok(string(c), !first && !second)
		checkParse(t, `"`+s+`"`, j, e)
		j, e = ok(string(0x10000+(c-0xd800)*0x400+0x123), first)
		checkParse(t, `"`+s+`\uDd23"`, j, e)
		j, e = ok(string(0x10000+0x234*0x400+(c-0xdc00)), second)
		checkParse(t, `"\udA34`+s+`"`, j, e)
	}
}

// TestP15_1Size: a text of 4096 bytes, and of one more, right or wrong.
func TestP15_1Size(t *testing.T) {
	long := strings.Repeat("x", 4094)
	checkParse(t, `"`+long+`"`, text(long), api.OK)
	checkParse(t, `"x`+long+`"`, null, api.ErrBig)
	checkParse(t, strings.Repeat(" ", 4095)+"1", one, api.OK)
	checkParse(t, "1"+strings.Repeat("\n", 4095), one, api.OK)
	checkParse(t, "1"+strings.Repeat("\n", 4096), null, api.ErrBig)
	checkParse(t, strings.Repeat(" ", 4096), null, api.ErrText)
	checkParse(t, strings.Repeat(" ", 4097), null, api.ErrBig)
	checkParse(t, strings.Repeat("\xff", 4096), null, api.ErrText)
	checkParse(t, strings.Repeat("\xff", 4097), null, api.ErrBig)
	checkParse(t, strings.Repeat("]", 100000), null, api.ErrBig)
	checkParse(t, `"`+strings.Repeat("é", 2047)+`"`, text(strings.Repeat("é", 2047)), api.OK)
	checkParse(t, `"`+strings.Repeat("é", 2047)+`x"`, null, api.ErrBig)
}

// TestP15_1Items: what stands behind 2000 values that have begun; and that an error ahead comes first.
func TestP15_1Items(t *testing.T) {
	ones := strings.Repeat("1,", 1998)
	full := slices.Repeat([]api.J{one}, 1999)
	checkParse(t, "["+ones+"1]", array(full...), api.OK)
	checkParse(t, "["+ones+"1 ] ", array(full...), api.OK)
	checkParse(t, "["+ones+"[]]", array(append(slices.Repeat([]api.J{one}, 1998), empty)...), api.OK)
	checkParse(t, "["+ones+"[ \n]]", array(append(slices.Repeat([]api.J{one}, 1998), empty)...), api.OK)
	checkParse(t, "["+ones+"{}]", array(append(slices.Repeat([]api.J{one}, 1998), object())...), api.OK)
	for _, s := range []string{"1,1]", "1,1", "1,", "1, ", "1,]", "1,x", "1,\xff", "1,\x00", "1,nul", "1,,", "1,:", "1,}", "1,\"", "1,[", "1,01", "1 , 1]", "[", "[ ", "[1]]", "[x", "[}", "[,", "[\xff", "[\n\"a\"", `{"a":`, `{"a":]`, `{"a" : x`, `{"a":1}]`, `{"a":}`, `{"a":` + "\xff"} {
		checkParse(t, "["+ones+s, null, api.ErrBig)
		checkParse(t, "x"+ones+s, null, api.ErrText)
		checkParse(t, "[1;"+ones+s, null, api.ErrText)
	}
	for _, s := range []string{"", "1", "1]]", "1 1", "1;", "1}", "1x", "01", "x", "1.5,1", "\"", "1\xff", "]", "{", "{,", "{]", "{1", "{\xff", `{"`, `{"a"`, `{"a",`, `{"a"1`, `{"a" 1:1`, "[]", "[]]]", "[]]1", "nul,1", "\"\\ud800\",1"} {
		checkParse(t, "["+ones+s, null, api.ErrText)
	}
}

// TestP15_1Twice: a key that stands twice is told where it ends, ahead of what is too much behind it.
func TestP15_1Twice(t *testing.T) {
	ones := strings.Repeat("1,", 1995)
	checkParse(t, "["+ones+`{"a":1,"a":1}]`, null, api.ErrText)
	checkParse(t, "["+ones+`{"a":1,"b":2},{"a":1}]`, null, api.ErrBig)
	checkParse(t, "["+ones+`1,{"a":1,"a":1}]`, null, api.ErrText)
	checkParse(t, "["+ones+`1,{"a":[],"aa":1`, null, api.ErrText)
	checkParse(t, "["+ones+`1,{"a":[],"aa":1,`, null, api.ErrText)
	checkParse(t, "["+ones+`1,{"a":[],"aa":1,"aaa":`, null, api.ErrBig)
	checkParse(t, "["+ones+`1,1,{"a":1,"aa":`, null, api.ErrBig)
	checkParse(t, "["+ones+`1,1,{"a":1,"a":`, null, api.ErrText)
	checkParse(t, "["+ones+`1,1,{"a":1,"\u0061":`, null, api.ErrText)
	checkParse(t, within(14, `{"a":1,"a":[[[[`), null, api.ErrText)
	checkParse(t, within(14, `{"a":1,"b":[[[[`), null, api.ErrBig)
	s := "{"
	for i := range 450 {
		s += fmt.Sprintf(`"%d":%d,`, i, i%10)
	}
	if j, e := json.Parse(s + `"x":1}`); e != api.OK || len(j.Keys) != 451 {
		t.Errorf("451 keys: %d, %d", len(j.Keys), e)
	}
	for _, i := range []int{0, 1, 225, 449} {
		checkParse(t, s+fmt.Sprintf(`"%d":1}`, i), null, api.ErrText)
	}
}

// TestP15_1Depth: containers within 15, 16 and more others.
func TestP15_1Depth(t *testing.T) {
	checkParse(t, within(16, ""), deep(15, empty), api.OK)
	checkParse(t, within(16, "1"), deep(16, one), api.OK)
	checkParse(t, within(15, "{}"), deep(15, object()), api.OK)
	checkParse(t, within(15, `[],{"a":0},[]`), deep(14, array(empty, object("a"), empty)), api.OK)
	checkParse(t, within(15, `{"a":0},[1],[]`), deep(14, array(object("a"), array(one), empty)), api.OK)
	checkParse(t, within(16, `"[[[[{{{{"`), deep(16, text("[[[[{{{{")), api.OK)
	checkParse(t, "["+strings.Repeat("[],", 100)+"[]]", array(slices.Repeat([]api.J{empty}, 101)...), api.OK)
	checkParse(t, within(16, "{}"), null, api.ErrBig)
	checkParse(t, within(16, "1,1,[]"), null, api.ErrBig)
	checkParse(t, within(15, `{"a":[]}`), null, api.ErrBig)
	checkParse(t, within(15, `{"a":{}}`), null, api.ErrBig)
	checkParse(t, within(15, "[],[1,{}]"), null, api.ErrBig)
	checkParse(t, strings.Repeat(`{"a":`, 16)+"1"+strings.Repeat("}", 16), inObjects(16), api.OK)
	checkParse(t, strings.Repeat(`{"a":`, 17)+"1"+strings.Repeat("}", 17), null, api.ErrBig)
	for _, s := range []string{"[", "{", "[]", "[x", " [", "\n{\xff", "1,[", "1, {", "null,\"\",[1.5"} {
		checkParse(t, strings.Repeat("[", 16)+s, null, api.ErrBig)
		checkParse(t, strings.Repeat(`{"a":`, 15)+"["+s, null, api.ErrBig)
		checkParse(t, "[01,"+strings.Repeat("[", 16)+s, null, api.ErrText)
	}
	for _, s := range []string{"", "]", "x", "1", "1[", "1{", "1 [", "],[", "1.5,[", "\"[", "nul[", "},[", ",[", ":["} {
		checkParse(t, strings.Repeat("[", 16)+s, null, api.ErrText)
	}
	checkParse(t, strings.Repeat(`{"a":`, 15)+"{[", null, api.ErrText)
	checkParse(t, strings.Repeat(`{"a":`, 15)+`{"a"[`, null, api.ErrText)
}

// inObjects is 1 within so many objects with the key a.
func inObjects(n int) api.J {
	j := one
	for range n {
		j = api.J{Kind: 6, Keys: []string{"a"}, List: []api.J{j}}
	}
	return j
}

// junk is full of what has no meaning in a value of some kinds; its list has n places.
func junk(kind, n int) api.J {
	wrong := api.J{Kind: 77, Str: "\xff"}
	return api.J{Kind: kind, Num: math.MinInt, Str: "\xff", List: slices.Repeat([]api.J{wrong}, n), Keys: []string{"\xff", "\xff"}}
}

func TestP15_2Print(t *testing.T) {
	noString, noList := junk(3, 3000), junk(4, 3000)
	noString.Num, noList.Str = -5, "a"
	for _, c := range []struct {
		j    api.J
		want string
	}{
		{null, "null"},
		{no, "false"},
		{yes, "true"},
		{number(0), "0"},
		{number(-1), "-1"},
		{number(100), "100"},
		{number(1 << 53), "9007199254740992"},
		{number(-1 << 53), "-9007199254740992"},
		{text(""), `""`},
		{text("a/'b"), `"a/'b"`},
		{text(`"\`), `"\"\\"`},
		{text("\b\f\n\r\t"), `"\u0008\u000c\u000a\u000d\u0009"`},
		{text("\x00\x1f \x7f"), "\"\\u0000\\u001f \x7f\""},
		{text("é\u2028\ufffd\U0010ffff<>&"), "\"é\u2028\ufffd\U0010ffff<>&\""},
		{empty, "[]"},
		{array(one), "[1]"},
		{array(one, null, text("x"), empty, array(one, one)), `[1,null,"x",[],[1,1]]`},
		{object(), "{}"},
		{object("a"), `{"a":0}`},
		{object("b", "a", "", "\"\\\n", "é"), `{"b":0,"a":1,"":2,"\"\\\u000a":3,"é":4}`},
		{array(object("a"), object("a")), `[{"a":0},{"a":0}]`},
		{inObjects(3), `{"a":{"a":{"a":1}}}`},
		{junk(0, 3000), "null"},
		{junk(1, 3000), "false"},
		{junk(2, 3000), "true"},
		{noString, "-5"},
		{noList, `"a"`},
		{api.J{Kind: 5, Num: 9, Str: "\xff", Keys: []string{"a", "a", "\xff"}, List: []api.J{junk(0, 3000), noList}}, `[null,"a"]`},
		{api.J{Kind: 6, Num: 9, Str: "\xff", Keys: []string{"a"}, List: []api.J{junk(2, 3000)}}, `{"a":true}`},
	} {
		s, e := json.Print(c.j)
		check(t, "printed", []any{s, e}, []any{c.want, api.OK})
	}
}

// checkPrint holds an error of Print against the one that is wanted.
func checkPrint(t *testing.T, what string, j api.J, want api.Errno) {
	t.Helper()
	s, e := json.Print(j)
	if e != want || e != api.OK && s != "" {
		t.Errorf("%s: %.200q, %d; not %d", what, s, e, want)
	}
}

func TestP15_2NoValues(t *testing.T) {
	for _, c := range []struct {
		what string
		j    api.J
	}{
		{"a kind below", api.J{Kind: -1}},
		{"a kind above", api.J{Kind: 7}},
		{"a kind far below", api.J{Kind: math.MinInt}},
		{"a kind far above", api.J{Kind: 1<<32 + 3}},
		{"a number above", number(1<<53 + 1)},
		{"a number below", number(-1<<53 - 1)},
		{"a number far above", number(math.MaxInt)},
		{"a number far below", number(math.MinInt)},
		{"half a code point", text("a\xc3")},
		{"a surrogate", text("\xed\xa0\x80")},
		{"a number within", array(one, number(math.MaxInt))},
		{"a kind within", array(api.J{Kind: 7}, one)},
		{"a string deep within", deep(16, text("\xff"))},
		{"a key that isn't UTF-8", object("a", "\xff")},
		{"a key twice", object("a", "a")},
		{"a key twice, apart", object("", "a", "b", "")},
		{"a key twice, within", array(one, object("a", "a"))},
		{"a key without a value", api.J{Kind: 6, Keys: []string{"a"}}},
		{"the last key without a value", api.J{Kind: 6, Keys: []string{"a", "b"}, List: []api.J{one}}},
		{"a wrong value of a key", api.J{Kind: 6, Keys: []string{"a", "b"}, List: []api.J{one, text("\xff")}}},
		{"a long one", text(strings.Repeat("x", 5000) + "\xff")},
		{"long ones", array(slices.Repeat([]api.J{text("\xff" + strings.Repeat("x", 4000))}, 3)...)},
	} {
		checkPrint(t, c.what, c.j, api.ErrForm)
	}
}

// TestP15_2TooGreat: by its values, its depth, its text's bytes; ahead of what isn't a value within it.
func TestP15_2TooGreat(t *testing.T) {
	ones := slices.Repeat([]api.J{one}, 1999)
	checkPrint(t, "2000 values", array(ones...), api.OK)
	checkPrint(t, "2001 values", array(append(ones, one)...), api.ErrBig)
	checkPrint(t, "2001 values, one of them wrong", array(append(ones, api.J{Kind: 7})...), api.ErrBig)
	checkPrint(t, "2001 values, behind a wrong one", array(slices.Concat([]api.J{text("\xff")}, ones)...), api.ErrBig)
	checkPrint(t, "2000 values, one of them wrong", array(append(ones[:1998:1998], api.J{Kind: 7})...), api.ErrForm)
	checkPrint(t, "2000 values in two", array(array(ones[:998]...), array(ones[:999]...)), api.OK)
	checkPrint(t, "2001 values in two", array(array(ones[:999]...), array(ones[:999]...)), api.ErrBig)
	checkPrint(t, "2001 values in an object", api.J{Kind: 6, Keys: []string{"a", "b"}, List: []api.J{array(ones[:1998]...), one}}, api.ErrBig)
	checkPrint(t, "2000 values in an object", api.J{Kind: 6, Keys: []string{"a", "b"}, List: []api.J{array(ones[:1997]...), one}}, api.OK)
	checkPrint(t, "2000 values that are containers", array(slices.Repeat([]api.J{empty}, 1999)...), api.ErrBig) // its text is too long
	checkPrint(t, "1365 values that are containers", array(slices.Repeat([]api.J{empty}, 1365)...), api.OK)
	checkPrint(t, "very many", array(slices.Repeat([]api.J{deep(5, array(ones...))}, 1000)...), api.ErrBig)
	checkPrint(t, "16 deep", deep(16, one), api.OK)
	checkPrint(t, "16 deep, and nothing", deep(15, empty), api.OK)
	checkPrint(t, "17 deep", deep(17, one), api.ErrBig)
	checkPrint(t, "17 deep, and nothing", deep(16, empty), api.ErrBig)
	checkPrint(t, "17 deep, an object", deep(16, object()), api.ErrBig)
	checkPrint(t, "16 objects", inObjects(16), api.OK)
	checkPrint(t, "17 objects", inObjects(17), api.ErrBig)
	checkPrint(t, "17 deep, and a wrong value within", deep(17, api.J{Kind: 7}), api.ErrBig)
	checkPrint(t, "17 deep, behind a wrong value", array(text("\xff"), deep(16, one)), api.ErrBig)
	checkPrint(t, "17 deep, in an object with a key twice", api.J{Kind: 6, Keys: []string{"a", "a"}, List: []api.J{one, deep(16, one)}}, api.ErrBig)
	checkPrint(t, "60000 deep", deep(60000, one), api.ErrBig)
	checkPrint(t, "containers side by side", array(slices.Repeat([]api.J{deep(15, one)}, 100)...), api.OK)
	checkPrint(t, "4096 bytes", text(strings.Repeat("x", 4094)), api.OK)
	checkPrint(t, "4097 bytes", text(strings.Repeat("x", 4095)), api.ErrBig)
	checkPrint(t, "4096 bytes by escapes", text(strings.Repeat("\x01", 682)+"\""), api.OK)
	checkPrint(t, "4097 bytes by escapes", text(strings.Repeat("\x01", 682)+"\"x"), api.ErrBig)
	checkPrint(t, "4096 bytes in an array", array(text(strings.Repeat("x", 2046)), text(strings.Repeat("x", 2043))), api.OK)
	checkPrint(t, "4097 bytes in an array", array(text(strings.Repeat("x", 2046)), text(strings.Repeat("x", 2044))), api.ErrBig)
	checkPrint(t, "4097 bytes by a key", object(strings.Repeat("x", 4091)), api.ErrBig)
	checkPrint(t, "4096 bytes by a key", object(strings.Repeat("x", 4090)), api.OK)
}

// TestP15_2Quote: of each byte, of bytes that aren't UTF-8, and of more than a text may have.
func TestP15_2Quote(t *testing.T) {
	check(t, "nothing", json.Quote(""), `""`)
	for c := range 256 {
		b := string([]byte{byte(c)})
		want := b
		if c < 32 {
			want = fmt.Sprintf(`\u%04x`, c)
		} else if strings.Contains(`"\`, b) {
			want = `\` + b
		}
		check(t, fmt.Sprintf("byte %d", c), json.Quote(b), `"`+want+`"`)
		check(t, fmt.Sprintf("byte %d among others", c), json.Quote("a"+b+"é"+b), `"a`+want+"é"+want+`"`)
	}
	check(t, "not UTF-8", json.Quote("\xff\xc3\n\xed\xa0\x80"), "\"\xff\xc3\\u000a\xed\xa0\x80\"")
	long := strings.Repeat("é\x00", 5000)
	check(t, "a long one", json.Quote(long) == `"`+strings.Repeat(`é\u0000`, 5000)+`"`, true)
	r := rand.New(rand.NewSource(152))
	for range 2000 {
		s := anyText(r, 12)
		p, e := json.Print(text(s))
		check(t, "printed", []any{p, e}, []any{json.Quote(s), api.OK})
		checkParse(t, json.Quote(s), text(s), api.OK)
	}
}

func TestP15_3Get(t *testing.T) {
	inner := api.J{Kind: 6, Num: 7, Str: "junk", Keys: []string{"x", "y"}, List: []api.J{{Kind: 3, Num: 1, Str: "junk", Keys: []string{"k"}, List: []api.J{one}}, {Kind: 5, Num: 3, Keys: []string{"k"}, List: []api.J{{Kind: 4, Num: 5, Str: "s"}}}}}
	j := api.J{Kind: 6, Num: 9, Str: "junk", Keys: []string{"a", "", "b", "a", "\xff", "in", "nil", "short", "none"}, List: []api.J{number(1), text("empty"), junk(0, 3000), number(2), yes, inner, null, array(one, null)}}
	for _, c := range []struct {
		what, k string
		j, want api.J
		ok      bool
	}{
		{"the first of two", "a", j, number(1), true},
		{"an empty key", "", j, text("empty"), true},
		{"what has no meaning", "b", j, null, true},
		{"a key that isn't UTF-8", "\xff", j, yes, true},
		{"what has no meaning within", "in", j, api.J{Kind: 6, Keys: []string{"x", "y"}, List: []api.J{one, array(text("s"))}}, true},
		{"null", "nil", j, null, true},
		{"the last value", "short", j, array(one, null), true},
		{"a key without a value", "none", j, null, false},
		{"a key that isn't there", "c", j, null, false},
		{"a key in capitals", "A", j, null, false},
		{"a key's beginning", "i", j, null, false},
		{"a key of a value within", "x", j, null, false},
		{"of an empty object", "a", object(), null, false},
		{"of an empty object, the empty key", "", object(), null, false},
		{"the second, without a value", "a", api.J{Kind: 6, Keys: []string{"b", "a"}, List: []api.J{one}}, null, false},
		{"a great one", "a", api.J{Kind: 6, Keys: []string{"a"}, List: []api.J{deep(100, number(math.MaxInt))}}, deep(100, number(math.MaxInt)), true},
		{"many", "a", api.J{Kind: 6, Keys: []string{"a"}, List: []api.J{array(slices.Repeat([]api.J{one}, 5000)...)}}, array(slices.Repeat([]api.J{one}, 5000)...), true},
	} {
		if v, ok := json.Get(c.j, c.k); ok != c.ok || !same(v, c.want) {
			t.Errorf("%s: %+v, %v; not %+v, %v", c.what, v, ok, c.want, c.ok)
		}
	}
	for _, kind := range []int{-1, 0, 1, 2, 3, 4, 5, 7, math.MaxInt} {
		o := object("a", "b")
		o.Kind = kind
		v, ok := json.Get(o, "a")
		check(t, fmt.Sprintf("of kind %d", kind), []any{v, ok}, []any{null, false})
	}
}

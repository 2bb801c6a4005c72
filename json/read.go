package json

import (
	"slices"
	"strconv"
	"strings"
	"unicode/utf8"

	"parley/api"
)

const blanks = " \t\n\r"

// The code points that are halves of surrogate pairs; a pair is one of those from afterHalves on.
const (
	firstHalf   = 0xd800
	secondHalf  = 0xdc00
	endOfHalves = 0xe000
	afterHalves = 0x10000
	halfBits    = 10 // of a pair's code point, in each half
)

// A byte behind a backslash stands for the byte at its place in escaped.
const (
	escapes = `"\/bfnrt`
	escaped = "\"\\/\b\f\n\r\t"
)

// reader reads a text from its beginning on; it gives up by a panic with the error.
type reader struct {
	left  string // what hasn't been read
	begun int    // how many values have begun
	depth int    // how many arrays and objects haven't ended
}

// text reads a value with nothing but blanks behind it.
func (r *reader) text() api.J {
	j := r.value()
	r.skipBlanks()
	if r.left != "" {
		panic(api.ErrText)
	}
	return j
}

func (r *reader) value() api.J {
	if r.begun == api.MaxItems {
		panic(api.ErrBig)
	}
	r.begun++
	r.skipBlanks()
	switch r.peek() {
	case 'n':
		r.want("null")
		return api.J{Kind: Null}
	case 'f':
		r.want("false")
		return api.J{Kind: False}
	case 't':
		r.want("true")
		return api.J{Kind: True}
	case '"':
		return api.J{Kind: String, Str: r.str()}
	case '[':
		return r.array()
	case '{':
		return r.object()
	}
	return api.J{Kind: Number, Num: r.number()}
}

func (r *reader) array() api.J {
	j := api.J{Kind: Array}
	r.items("[", "]", func() {
		j.List = append(j.List, r.value())
	})
	return j
}

func (r *reader) object() api.J {
	j := api.J{Kind: Object}
	r.items("{", "}", func() {
		r.skipBlanks()
		k := r.str()
		if slices.Contains(j.Keys, k) {
			panic(api.ErrText)
		}
		j.Keys = append(j.Keys, k)
		r.skipBlanks()
		r.want(":")
		j.List = append(j.List, r.value())
	})
	return j
}

// items reads a container: none, or some items with a comma between each two.
func (r *reader) items(first, last string, item func()) {
	if r.depth == api.MaxDepth {
		panic(api.ErrBig)
	}
	r.depth++
	r.want(first)
	if !r.comes(last) {
		item()
		for r.comes(",") {
			item()
		}
		r.want(last)
	}
	r.depth--
}

// number reads the digits up to the first that can't belong to a number.
func (r *reader) number() int {
	negative := r.comes("-")
	n := r.digit()
	if n == 0 && (negative || isDigit(r.peek())) {
		panic(api.ErrText)
	}
	for isDigit(r.peek()) {
		n = 10*n + r.digit()
		if n > MaxNumber {
			panic(api.ErrText)
		}
	}
	if negative {
		return -n
	}
	return n
}

func (r *reader) digit() int {
	c := r.byte()
	if !isDigit(c) {
		panic(api.ErrText)
	}
	return int(c - '0')
}

func isDigit(c byte) bool {
	return '0' <= c && c <= '9'
}

// str reads a string with its quotation marks.
func (r *reader) str() string {
	r.want(`"`)
	var b []byte
	for {
		switch r.peek() {
		case '"':
			r.byte()
			return string(b)
		case '\\':
			r.byte()
			b = utf8.AppendRune(b, r.escape())
		default:
			b = append(b, r.plain()...)
		}
	}
}

// plain reads a code point that stands for itself.
func (r *reader) plain() string {
	c, size := utf8.DecodeRuneInString(r.left)
	if c < ' ' || c == utf8.RuneError && size < utf8.RuneLen(c) {
		panic(api.ErrText)
	}
	return r.take(size)
}

// escape reads what stands behind a backslash.
func (r *reader) escape() rune {
	c := r.byte()
	if c == 'u' {
		return r.codePoint()
	}
	i := strings.IndexByte(escapes, c)
	if i < 0 {
		panic(api.ErrText)
	}
	return rune(escaped[i])
}

// codePoint reads what stands behind a \u: four digits, or those of the first half of a pair and all of the second.
func (r *reader) codePoint() rune {
	c := r.hex()
	if c < firstHalf || c >= endOfHalves {
		return c
	}
	r.want(`\u`)
	d := r.hex()
	if c >= secondHalf || d < secondHalf || d >= endOfHalves {
		panic(api.ErrText)
	}
	return afterHalves + (c-firstHalf)<<halfBits + d - secondHalf
}

// hex reads four hexadecimal digits.
func (r *reader) hex() rune {
	n, err := strconv.ParseUint(r.take(4), 16, 16)
	if err != nil {
		panic(api.ErrText)
	}
	return rune(n)
}

func (r *reader) skipBlanks() {
	r.left = strings.TrimLeft(r.left, blanks)
}

// comes tells whether s comes next, blanks left out, and steps behind it.
func (r *reader) comes(s string) bool {
	r.skipBlanks()
	left, ok := strings.CutPrefix(r.left, s)
	r.left = left
	return ok
}

// want steps behind s, which must stand here.
func (r *reader) want(s string) {
	if r.take(len(s)) != s {
		panic(api.ErrText)
	}
}

// peek answers the next byte; 0, which stands nowhere in a text, at the end.
func (r *reader) peek() byte {
	if r.left == "" {
		return 0
	}
	return r.left[0]
}

func (r *reader) byte() byte {
	return r.take(1)[0]
}

// take steps behind the next n bytes and answers them.
func (r *reader) take(n int) string {
	if n > len(r.left) {
		panic(api.ErrText)
	}
	s := r.left[:n]
	r.left = r.left[n:]
	return s
}

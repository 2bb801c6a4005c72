package json

import (
	"slices"
	"strconv"
	"strings"
	"unicode/utf8"

	"parley/api"
)

const hexDigits = "0123456789abcdef"

// inside answers the values in a container; where an object has too few or too many, those that have a key.
func inside(j api.J) []api.J {
	switch j.Kind {
	case Array:
		return j.List
	case Object:
		return j.List[:min(len(j.Keys), len(j.List))]
	}
	return nil
}

// room answers how many of so many values may come behind j, which is within depth containers; below 0: it is too great.
func room(j api.J, depth, values int) int {
	if isContainer(j) && depth == api.MaxDepth {
		return -1
	}
	values--
	for _, v := range inside(j) {
		if values < 0 {
			break
		}
		values = room(v, depth+1, values)
	}
	return values
}

func isContainer(j api.J) bool {
	return j.Kind == Array || j.Kind == Object
}

// isValue tells whether j, which isn't too great, is a value.
func isValue(j api.J) bool {
	switch j.Kind {
	case Null, False, True, Array:
	case Number:
		if j.Num < -MaxNumber || j.Num > MaxNumber {
			return false
		}
	case String:
		if !utf8.ValidString(j.Str) {
			return false
		}
	case Object:
		if len(j.Keys) > len(j.List) || !areKeys(j.Keys) {
			return false
		}
	default:
		return false
	}
	return !slices.ContainsFunc(inside(j), func(v api.J) bool { return !isValue(v) })
}

// areKeys tells whether an object may have these keys.
func areKeys(l []string) bool {
	seen := map[string]struct{}{}
	for _, k := range l {
		if !utf8.ValidString(k) {
			return false
		}
		seen[k] = struct{}{}
	}
	return len(seen) == len(l)
}

// appendValue writes the text of a value.
func appendValue(b []byte, j api.J) []byte {
	switch j.Kind {
	case Null:
		return append(b, "null"...)
	case False:
		return append(b, "false"...)
	case True:
		return append(b, "true"...)
	case Number:
		return strconv.AppendInt(b, int64(j.Num), 10)
	case String:
		return appendString(b, j.Str)
	case Array:
		return append(appendItems(append(b, '['), j), ']')
	}
	return append(appendItems(append(b, '{'), j), '}')
}

// appendItems writes what stands between the brackets of a container.
func appendItems(b []byte, j api.J) []byte {
	for i, v := range inside(j) {
		if i > 0 {
			b = append(b, ',')
		}
		if j.Kind == Object {
			b = append(appendString(b, j.Keys[i]), ':')
		}
		b = appendValue(b, v)
	}
	return b
}

// appendString writes the text of a string of any bytes.
func appendString(b []byte, s string) []byte {
	b = append(b, '"')
	for i := range len(s) {
		switch c := s[i]; {
		case c == '"' || c == '\\':
			b = append(b, '\\', c)
		case c < ' ':
			b = append(b, `\u00`...)
			b = append(b, hexDigits[c>>4], hexDigits[c&15])
		default:
			b = append(b, c)
		}
	}
	return append(b, '"')
}

// clone answers j in new memory, without what has no meaning.
func clone(j api.J) api.J {
	c := api.J{Kind: j.Kind}
	switch j.Kind {
	case Number:
		c.Num = j.Num
	case String:
		c.Str = strings.Clone(j.Str)
	case Object:
		for _, k := range j.Keys {
			c.Keys = append(c.Keys, strings.Clone(k))
		}
	}
	for _, v := range inside(j) {
		c.List = append(c.List, clone(v))
	}
	return c
}

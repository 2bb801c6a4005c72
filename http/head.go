package http

import (
	"strconv"
	"strings"

	"parley/api"
)

const (
	version    = "HTTP/1.1"
	lengthName = "content-length"
	closeName  = "connection"
	closeValue = "close"

	maxMethod = 8
	maxTarget = 200
	maxName   = 40
	maxLength = 9 // digits of a Content-Length
)

// readHead reads a head that is whole, without its end.
func readHead(text string) draft {
	lines := strings.Split(text, crlf)
	d := draft{begun: true}
	d.req.Method, d.req.Target = firstLine(lines[0])
	for _, line := range lines[1:] {
		d.req.Heads = append(d.req.Heads, field(line))
	}
	hosts, bodies := 0, 0
	for _, h := range d.req.Heads {
		switch h.Name {
		case "host":
			hosts++
		case lengthName:
			bodies++
			d.size = bodyLength(h.Value)
		case "transfer-encoding":
			bodies++
			need(strings.EqualFold(h.Value, "chunked"))
			d.chunked = true
		case closeName:
			d.req.Close = d.req.Close || strings.EqualFold(h.Value, closeValue)
		}
	}
	need(hosts == 1 && bodies <= 1)
	// This is asked at last, for all else that may be wrong comes ahead of it.
	if d.size > api.MaxContent {
		panic(wrong(bigBody))
	}
	return d
}

// firstLine answers the method and the target.
func firstLine(line string) (string, string) {
	parts := strings.Split(line, " ")
	need(len(parts) == 3 && parts[2] == version)
	method, target := parts[0], parts[1]
	need(isRun(method, maxMethod, isCapital))
	need(isRun(target, maxTarget, isVisible) && target[0] == '/')
	return method, target
}

// field answers a field's name, in small letters, and its value.
func field(line string) Head {
	name, rest, ok := strings.Cut(line, ":")
	need(ok && isRun(name, maxName, isOfName))
	value := strings.Trim(rest, " \t")
	for i := range len(value) {
		need(isOfValue(value[i]))
	}
	return Head{Name: strings.ToLower(name), Value: value}
}

// bodyLength answers what a Content-Length says.
func bodyLength(value string) int {
	need(isRun(value, maxLength, isDigit))
	n, err := strconv.Atoi(value)
	need(err == nil)
	return n
}

// isRun tells whether s has 1 to most bytes, each of which is one of those.
func isRun(s string, most int, is func(c byte) bool) bool {
	for i := range len(s) {
		if !is(s[i]) {
			return false
		}
	}
	return len(s) > 0 && len(s) <= most
}

func isCapital(c byte) bool {
	return c >= 'A' && c <= 'Z'
}

func isDigit(c byte) bool {
	return c >= '0' && c <= '9'
}

// isVisible: what may stand in a target.
func isVisible(c byte) bool {
	return c > ' ' && c <= '~'
}

func isOfName(c byte) bool {
	return isCapital(c) || c >= 'a' && c <= 'z' || isDigit(c) || c == '-'
}

func isOfValue(c byte) bool {
	return isVisible(c) || c == ' ' || c == '\t'
}

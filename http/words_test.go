package http_test

import (
	"bufio"
	"bytes"
	"fmt"
	"io"
	"math/rand"
	nethttp "net/http"
	"regexp"
	"strconv"
	"strings"
	"testing"

	"parley/http"
)

var (
	aFirstLine = regexp.MustCompile(`^([A-Z]{1,8}) (/[!-~]{0,199}) HTTP/1\.1$`)
	aField     = regexp.MustCompile(`^([A-Za-z0-9-]{1,40}):[ \t]*([\t -~]*?)[ \t]*$`)
	aLength    = regexp.MustCompile(`^[0-9]{1,9}$`)
	aChunkLine = regexp.MustCompile(`^[0-9A-Fa-f]{1,8}\r\n`)
)

// head reads a whole head by the document's words: the code, if it isn't in form; what says how the body comes.
func head(text string) (r http.Request, said map[string]string, code int) {
	said = map[string]string{}
	count := map[string]int{}
	for i, line := range strings.Split(text, "\r\n") {
		m := aField.FindStringSubmatch(line)
		if i == 0 {
			m = aFirstLine.FindStringSubmatch(line)
		}
		if m == nil {
			return r, nil, 400
		}
		if i == 0 {
			r.Method, r.Target = m[1], m[2]
			continue
		}
		name := strings.ToLower(m[1])
		r.Heads = append(r.Heads, http.Head{Name: name, Value: m[2]})
		count[name]++
		said[name] = strings.ToLower(m[2])
		r.Close = r.Close || name == "connection" && said[name] == "close"
	}
	length, long := said["content-length"]
	encoding, coded := said["transfer-encoding"]
	n, _ := strconv.Atoi(length)
	switch {
	case count["host"] != 1 || count["content-length"]+count["transfer-encoding"] > 1:
		return r, nil, 400
	case long && !aLength.MatchString(length) || coded && encoding != "chunked":
		return r, nil, 400
	case n > 4096:
		return r, nil, 413
	}
	return r, said, 0
}

// inChunks reads a body in chunks: it, and what is behind it; the code, if it is none; false: it isn't whole.
func inChunks(s string) (body, rest string, code int, ok bool) {
	for {
		line := aChunkLine.FindString(s)
		if line == "" {
			wrong := len(s) >= 10 || strings.Contains(s, "\r\n")
			return "", "", 400, wrong
		}
		n, _ := strconv.ParseInt(strings.TrimSpace(line), 16, 64)
		s = s[len(line):]
		if int64(len(body))+n > 4096 {
			return "", "", 413, true
		}
		end := s[min(int(n), len(s)):]
		end = end[:min(2, len(end))]
		if !strings.HasPrefix("\r\n", end) {
			return "", "", 400, true
		}
		if len(end) < 2 {
			return "", "", 0, false
		}
		body, s = body+s[:n], s[n+2:]
		if n == 0 {
			return body, s, 0, true
		}
	}
}

// second is what a Parser should answer to all of s, by the document's words.
func second(s string) []http.Item {
	var l []http.Item
	for {
		start := s[:min(len(s), 1024)]
		text, _, ok := strings.Cut(start, "\r\n\r\n")
		if !ok && len(s) >= 1024 {
			return append(l, http.Item{Code: 431})
		}
		if !ok {
			return l
		}
		r, said, code := head(text)
		if code != 0 {
			return append(l, http.Item{Code: code})
		}
		s = s[len(text)+4:]
		if _, coded := said["transfer-encoding"]; coded {
			body, rest, code, ok := inChunks(s)
			if ok && code != 0 {
				return append(l, http.Item{Code: code})
			}
			if !ok {
				return l
			}
			r.Body, s = body, rest
		} else {
			n, _ := strconv.Atoi(said["content-length"])
			if n > len(s) {
				return l
			}
			r.Body, s = s[:n], s[n:]
		}
		l = append(l, http.Item{Req: r})
	}
}

// source makes any bytes that are nearly requests.
type source struct {
	*rand.Rand
}

func (r *source) pick(l ...string) string {
	return l[r.Intn(len(l))]
}

// seldom is x, or once in so many times one of the others.
func (r *source) seldom(times int, x string, others ...string) string {
	if r.Intn(times) > 0 {
		return x
	}
	return r.pick(others...)
}

// capitals makes some letters of s capitals.
func (r *source) capitals(s string) string {
	b := []byte(s)
	for i := range b {
		if r.Intn(4) == 0 {
			b[i] = strings.ToUpper(s)[i]
		}
	}
	return string(b)
}

// bytes are any bytes, many of which stand in texts of HTTP.
func (r *source) bytes(n int) string {
	b := make([]byte, n)
	for i := range b {
		b[i] = "\r\n\r\n 0aG:\x00\xff"[r.Intn(11)]
	}
	return string(b)
}

// chunks is a body in chunks, most of which is in order.
func (r *source) chunks() string {
	s := ""
	for range r.Intn(4) {
		n := r.Intn(20) + 1
		if r.Intn(9) == 0 {
			n = []int{2000, 4000, 4096, 4090}[r.Intn(4)]
		}
		line := fmt.Sprintf("%0*x", r.Intn(8), n)
		s += r.seldom(30, r.capitals(line), line+" ", "0"+line, "", "x", "00000000"+line, line+";a", "-1", "1001", "ffffffff") + r.seldom(50, "\r\n", "\n", "\r", "", "\r\r\n")
		s += r.bytes(n) + r.seldom(50, "\r\n", "\n", "\r", "", "x", "\rx")
	}
	return s + r.seldom(20, "0", "00", "00000000", "000000000", "") + "\r\n" + r.seldom(20, "\r\n", "x\r\n\r\n", "\r", "\n")
}

// fill is a field that brings a head to some 1024 bytes.
func (r *source) fill(head string) string {
	return "f: " + strings.Repeat("f", max(0, 1024-len(head)-9+r.Intn(5)))
}

// request is one, most of which is in order.
func (r *source) request() string {
	s := r.seldom(30, "POST", "G", "ABCDEFGH", "ABCDEFGHI", "get", "", "P T") + r.seldom(50, " ", "  ", "\t", "") + r.seldom(30, "/channels/0/posts", "/", "x", "/"+strings.Repeat("y", 199), "/"+strings.Repeat("y", 200), "/\x7f", "") + r.seldom(50, " ", "  ", "") + r.seldom(50, "HTTP/1.1", "HTTP/1.0", "http/1.1", "HTTP/1.1 ") + "\r\n"
	body := ""
	l := []string{r.capitals("host") + ":" + r.seldom(30, " a", "", "\ta b \t", "é", "\x00")}
	for range r.Intn(3) {
		l = append(l, r.seldom(30, r.capitals("name")+": value", "x:", "x", ":x", "a b: c", "a: \r", "host: b", "a:: ", strings.Repeat("n", 40)+":", strings.Repeat("n", 41)+":"))
	}
	if r.Intn(6) == 0 {
		l = append(l, r.capitals("connection")+": "+r.pick("close", "CLOSE", "keep-alive", "close, x", ""))
	}
	for range r.Intn(20) / 19 {
		l = append(l, "Content-Length: 3")
	}
	switch r.Intn(3) {
	case 0:
		n := []int{0, 1, 5, 30, 4096, 2, 100, 10}[r.Intn(8)]
		l = append(l, r.capitals("content-length")+": "+r.seldom(30, fmt.Sprintf("%0*d", r.Intn(9), n), "-1", "4097", "x", "", "1 1", "0000000001", "999999999"))
		body = r.bytes(n)
	case 1:
		l = append(l, r.capitals("transfer-encoding")+": "+r.seldom(30, r.capitals("chunked"), "gzip", "", "chunked,"))
		body = r.chunks()
	}
	r.Shuffle(len(l), func(i, j int) { l[i], l[j] = l[j], l[i] })
	s += strings.Join(l, "\r\n")
	if r.Intn(9) == 0 {
		s += "\r\n" + r.fill(s)
	}
	return s + "\r\n\r\n" + body
}

// stream is some requests; now and then a byte of it is altered, or taken away.
func (r *source) stream() string {
	s := ""
	for range 1 + r.Intn(4) {
		s += r.request()
	}
	if i := r.Intn(len(s)); r.Intn(4) == 0 {
		s = s[:i] + r.pick("", "\r", "\n", " ", "0", "x", "\xff", "\r\n\r\n") + s[i+1:]
	}
	return s
}

// cut cuts s in pieces of at most so many bytes, some of them empty.
func (r *source) cut(s string, most int) []string {
	var l []string
	for len(s) > 0 {
		n := min(len(s), r.Intn(most+1))
		l = append(l, s[:n])
		s = s[n:]
	}
	return append(l, "")
}

// TestP21_1Any: any bytes in one piece, against the words.
func TestP21_1Any(t *testing.T) {
	r := &source{rand.New(rand.NewSource(211))}
	came := map[int]int{}
	for range 20000 {
		s := r.stream()
		var p http.Parser
		l, want := p.Feed([]byte(s)), second(s)
		if tell(l) != tell(want) {
			t.Fatalf("%q: %s\nnot %s", s, tell(l), tell(want))
		}
		for _, i := range l {
			came[i.Code]++
		}
	}
	for _, c := range []int{0, 400, 413, 431} {
		if came[c] < 200 {
			t.Errorf("code %d came %d times", c, came[c])
		}
	}
}

// TestP21_2Any: any bytes in any pieces: the same in the end.
func TestP21_2Any(t *testing.T) {
	r := &source{rand.New(rand.NewSource(212))}
	for range 500 {
		s := r.stream()
		want := tell(second(s))
		for _, most := range []int{1, 2, 5, 50, 500, 5000} {
			var p http.Parser
			var l []http.Item
			for _, piece := range r.cut(s, most) {
				l = append(l, p.Feed([]byte(piece))...)
			}
			if tell(l) != want {
				t.Fatalf("%q in pieces up to %d: %s\nnot %s", s, most, tell(l), want)
			}
		}
	}
}

// TestP21_2Each: behind each byte just what all bytes up to it say has been told.
func TestP21_2Each(t *testing.T) {
	r := &source{rand.New(rand.NewSource(213))}
	for range 400 {
		s := r.stream()
		s = s[:min(len(s), 1500)]
		var p http.Parser
		var l []http.Item
		for i := range len(s) {
			l = append(l, p.Feed([]byte(s[i:i+1]))...)
			want := second(s[:i+1])
			dead := len(want) > 0 && want[len(want)-1].Code != 0
			if tell(l) != tell(want) || p.Dead() != dead {
				t.Fatalf("%q, %d bytes: %s, Dead %v\nnot %s", s, i+1, tell(l), p.Dead(), tell(want))
			}
		}
	}
}

// TestP21_3Library: what the library makes of what is written.
func TestP21_3Library(t *testing.T) {
	r := &source{rand.New(rand.NewSource(214))}
	for range 2000 {
		a := http.Answer{Code: 200 + r.Intn(400), Body: r.bytes(r.Intn(300)), Close: r.Intn(2) == 0}
		if a.Code == 204 || a.Code == 304 { // the library takes these to have no body
			continue
		}
		if r.Intn(2) == 0 {
			a.Heads = []http.Head{{Name: "x-leader", Value: fmt.Sprint(r.Intn(7))}}
		}
		got, err := nethttp.ReadResponse(bufio.NewReader(bytes.NewReader(http.Write(a))), nil)
		if err != nil {
			t.Fatalf("%+v: %v", a, err)
		}
		body, err := io.ReadAll(got.Body)
		check(t, "code, reason, length, close", []any{err, got.Status, got.ContentLength, got.Close}, []any{nil, fmt.Sprint(a.Code, " ", http.Reason(a.Code)), len(a.Body), a.Close})
		check(t, "the body", fmt.Sprintf("%q", body), fmt.Sprintf("%q", a.Body))
		check(t, "the field", got.Header.Get("X-Leader"), http.Value(http.Request{Heads: a.Heads}, "x-leader"))
	}
}

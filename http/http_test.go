package http_test

import (
	"fmt"
	"math"
	"slices"
	"strings"
	"testing"
	"unsafe"

	"parley/http"
)

func check(t *testing.T, what string, got, want any) {
	t.Helper()
	if g, w := fmt.Sprintf("%+v", got), fmt.Sprintf("%+v", want); g != w {
		t.Errorf("%s: %.1000s, not %.1000s", what, g, w)
	}
}

// tell is items as one text, in which a list that is nil and an empty one are the same.
func tell(l []http.Item) string {
	s := ""
	for _, i := range l {
		r := i.Req
		s += fmt.Sprintf("[%d %q %q %q %q %v]", i.Code, r.Method, r.Target, r.Heads, r.Body, r.Close)
	}
	return s
}

func same(t *testing.T, what string, got, want []http.Item) {
	t.Helper()
	if g, w := tell(got), tell(want); g != w {
		t.Errorf("%.300s: %d items: %.1000s, not %d: %.1000s", what, len(got), g, len(want), w)
	}
}

// lines are these lines with what ends a head.
func lines(l ...string) string {
	return strings.Join(l, "\r\n") + "\r\n\r\n"
}

// get is a request of one target without more than must be there.
func get(target string) string {
	return lines("GET "+target+" HTTP/1.1", "Host: a")
}

// got is what get is read as.
func got(target string) http.Item {
	return http.Item{Req: http.Request{Method: "GET", Target: target, Heads: []http.Head{{"host", "a"}}}}
}

func code(n int) http.Item {
	return http.Item{Code: n}
}

// sized is the head of a request whose body has the length that is said.
func sized(length string) string {
	return lines("PUT /s HTTP/1.1", "Host: a", "Content-Length: "+length)
}

// chunks is the head of a request whose body comes in chunks.
const chunks = "PUT /c HTTP/1.1\r\nHost: a\r\nTransfer-Encoding: chunked\r\n\r\n"

// put is what a request with a body is read as.
func put(target, name, value, body string) http.Item {
	return http.Item{Req: http.Request{Method: "PUT", Target: target, Heads: []http.Head{{"host", "a"}, {name, value}}, Body: body}}
}

func chunked(body string) http.Item {
	return put("/c", "transfer-encoding", "chunked", body)
}

func lengthy(length, body string) http.Item {
	return put("/s", "content-length", length, body)
}

// pieces are the items of all Feeds of pieces of so many bytes; a code must be the last one, and make the Parser dead.
func pieces(t *testing.T, s string, size int) []http.Item {
	t.Helper()
	var p http.Parser
	var l []http.Item
	for piece := range slices.Chunk([]byte(s), size) {
		dead := p.Dead()
		more := p.Feed(piece)
		if dead && len(more) > 0 {
			t.Errorf("%.80q: behind a code: %s", s, tell(more))
		}
		l = append(l, more...)
		coded := slices.IndexFunc(l, func(i http.Item) bool { return i.Code != 0 })
		if coded >= 0 && coded < len(l)-1 || p.Dead() != (coded >= 0) {
			t.Errorf("%.80q: Dead %v behind %s", s, p.Dead(), tell(l))
		}
	}
	return l
}

// all holds what comes of bytes in one piece and in pieces of some sizes; and that nothing comes of what is fed behind it, if there is a code.
func all(t *testing.T, s string, want ...http.Item) {
	t.Helper()
	same(t, fmt.Sprintf("%q in one piece", s), pieces(t, s, len(s)+1), want)
	for _, size := range []int{1, 2, 3, 7, 64, 1000} {
		same(t, fmt.Sprintf("%q in pieces of %d", s, size), pieces(t, s, size), want)
	}
	if len(want) > 0 && want[len(want)-1].Code != 0 {
		same(t, fmt.Sprintf("%q and more behind it", s), pieces(t, s+get("/behind"), len(s)), want)
		same(t, fmt.Sprintf("%q and more with it", s), pieces(t, s+get("/with"), len(s)+99), want)
	}
}

// told holds that the code comes with just the last byte of s, of which the rest is known to be nothing.
func told(t *testing.T, s string, n int) {
	t.Helper()
	all(t, s[:len(s)-1])
	all(t, s, code(n))
}

func TestP21_1Examples(t *testing.T) {
	all(t, "GET / HTTP/1.1\r\nHost: a\r\n\r\n", got("/"))
	all(t, "PUT /s HTTP/1.1\r\nHost: a\r\ncontent-length: 2\r\n\r\nhi", lengthy("2", "hi"))
	told(t, "PUT / HTTP/1.1\r\nHost: a\r\ncontent-length: 2\r\ntransfer-encoding: chunked\r\n\r\n", 400)
	told(t, "get / HTTP/1.1\r\nHost: a\r\n\r\n", 400)
	told(t, "GET / HTTP/1.1\r\nHost: a\r\nHost: a\r\n\r\n", 400)
	told(t, "GET / HTTP/1.1\r\n\r\n", 400)
	told(t, strings.Repeat("x", 1024), 431)
	told(t, "GET / HTTP/1.1\r\nHost: a\r\nContent-Length: 4097\r\n\r\n", 413)
	all(t, chunks+"2\r\nhi\r\n0\r\n\r\n", chunked("hi"))
	told(t, chunks+"g\r\n", 400)
}

// TestP21_1None: nothing comes of nothing, and of what isn't whole.
func TestP21_1None(t *testing.T) {
	var p http.Parser
	check(t, "Dead at the beginning", p.Dead(), false)
	same(t, "of nothing", p.Feed(nil), nil)
	same(t, "of an empty piece", p.Feed([]byte{}), nil)
	whole := sized("2") + "hi"
	for i := range len(whole) {
		all(t, whole[:i])
	}
	whole = chunks + "2\r\nhi\r\n0\r\n\r\n"
	for i := range len(whole) {
		all(t, whole[:i])
	}
}

// TestP21_1FirstLines: what a first line may be, and what is none; it is none among the fields, too.
func TestP21_1FirstLines(t *testing.T) {
	for _, c := range []struct{ method, target string }{
		{"G", "/"}, {"A", "/a"}, {"Z", "//"}, {"ABCDEFGH", "/!~"}, {"GET", "/" + strings.Repeat("t", 199)}, {"HTTP", "/HTTP/1.1"}, {"POST", "/%20?x=1&y#z:\"\\|{}"}, {"DELETE", "/\x7e\x21"},
	} {
		want := got(c.target)
		want.Req.Method = c.method
		all(t, lines(c.method+" "+c.target+" HTTP/1.1", "Host: a"), want)
	}
	for _, first := range []string{
		" ", "GET", "GET /", "GET /  HTTP/1.1", "GET  / HTTP/1.1", " GET / HTTP/1.1", "GET / HTTP/1.1 ", "GET / HTTP/1.1 x", "GET / x HTTP/1.1", "GET\t/ HTTP/1.1", "GET /\tHTTP/1.1", "/ HTTP/1.1", " / HTTP/1.1", "GET HTTP/1.1",
		"get / HTTP/1.1", "Get / HTTP/1.1", "GEt / HTTP/1.1", "ABCDEFGHI / HTTP/1.1", "G3T / HTTP/1.1", "G-T / HTTP/1.1", "G@ / HTTP/1.1", "G[ / HTTP/1.1", "G\x00T / HTTP/1.1", "\xc3\x89 / HTTP/1.1",
		"GET a HTTP/1.1", "GET  HTTP/1.1", "GET * HTTP/1.1", "GET a/ HTTP/1.1", "GET http://a/ HTTP/1.1", "GET /" + strings.Repeat("t", 200) + " HTTP/1.1", "GET /\x7f HTTP/1.1", "GET /\x80 HTTP/1.1", "GET /\xc3\xa9 HTTP/1.1", "GET /\x00 HTTP/1.1", "GET /\x1f HTTP/1.1", "GET /a\rb HTTP/1.1", "GET /a\nb HTTP/1.1",
		"GET / HTTP/1.0", "GET / HTTP/1.2", "GET / HTTP/2", "GET / HTTP/1.10", "GET / HTTP/1.", "GET / http/1.1", "GET / Http/1.1", "GET / HTTP/1,1", "GET / HTTP/01.1", "GET / XHTTP/1.1", "GET / HTTP/1.1\r", "GET / HTTP/1.1\n", "\nGET / HTTP/1.1", "\rGET / HTTP/1.1", "Host: a",
	} {
		told(t, lines(first, "Host: a"), 400)
		told(t, lines("GET / HTTP/1.1", "Host: a", first), 400)
	}
	told(t, "\r\n\r\n", 400)
	told(t, lines("", "Host: a"), 400)
	told(t, lines("", "GET / HTTP/1.1", "Host: a"), 400)
	told(t, "GET / HTTP/1.1\n\nHost: a\r\n\r\n", 400)
	all(t, "GET / HTTP/1.1\nHost: a\n\n")
}

// TestP21_1FirstBytes: each byte, in each part of the first line.
func TestP21_1FirstBytes(t *testing.T) {
	for c := range 256 {
		b := string([]byte{byte(c)})
		for _, x := range []struct {
			first string
			good  bool
		}{
			{"G" + b + "T / HTTP/1.1", c >= 'A' && c <= 'Z'},
			{"GET /x" + b + " HTTP/1.1", c >= 33 && c <= 126},
			{"GET " + b + "/x HTTP/1.1", c == '/'},
			{"GET" + b + "/ HTTP/1.1", c == ' '},
			{"GET /" + b + "HTTP/1.1", c == ' '},
			{"GET / HTTP/1.1" + b, false},
			{"GET / HTTP" + b + "1.1", c == '/'},
		} {
			l := pieces(t, lines(x.first, "Host: a"), 9)
			if len(l) != 1 || (l[0].Code == 0) != x.good || !x.good && l[0].Code != 400 {
				t.Errorf("%q: %s", x.first, tell(l))
			}
		}
	}
}

// TestP21_1Fields: names in small letters and values without what stands around them, in order.
func TestP21_1Fields(t *testing.T) {
	forty := strings.Repeat("N-9z", 10)
	long := strings.Repeat("v", 900)
	all(t, lines("GET / HTTP/1.1", "B: 1", "hOsT:a", "b:2", "A:", "c: \t ", "-:x", "0:\tx y\t \tz \t", forty+": 40", "d:::", "e: a:b", "F: ~!\"\\ ", "b:1"), http.Item{Req: http.Request{Method: "GET", Target: "/", Heads: []http.Head{
		{"b", "1"}, {"host", "a"}, {"b", "2"}, {"a", ""}, {"c", ""}, {"-", "x"}, {"0", "x y\t \tz"}, {strings.ToLower(forty), "40"}, {"d", "::"}, {"e", "a:b"}, {"f", "~!\"\\"}, {"b", "1"},
	}}})
	all(t, lines("GET / HTTP/1.1", "long: "+long, "HOST:"), http.Item{Req: http.Request{Method: "GET", Target: "/", Heads: []http.Head{{"long", long}, {"host", ""}}}})
	for _, field := range []string{
		" ", ":", ": x", " a: x", "a : x", "a\t: x", "a b: x", "ab", "a", "a x", "a;x", "a_b: x", "a.b: x", "a/: x", "\xc3\xa9: x", "a\x00: x", "a\r: x", "a\n: x", "\na: x", forty + "x: 41", " folded", "\tfolded: x",
		"a: \x00", "a: \x1f", "a: \x7f", "a: \x80", "a: \xc3\xa9", "a: b\rc", "a: b\nc", "a: b\r", "a: b\n", "a: \nb", "a: \v", "a:\x0b b", "a: b \xff",
	} {
		told(t, lines("GET / HTTP/1.1", "Host: a", field), 400)
		told(t, lines("GET / HTTP/1.1", field, "Host: a"), 400)
	}
	told(t, lines("GET / HTTP/1.1", "", "Host: a")[:18], 400)
	all(t, lines("GET / HTTP/1.1", "Host: a", ""), got("/"))
}

// TestP21_1FieldBytes: each byte, in each part of a field.
func TestP21_1FieldBytes(t *testing.T) {
	for c := range 256 {
		b := string([]byte{byte(c)})
		letter := c >= 'a' && c <= 'z' || c >= 'A' && c <= 'Z' || c >= '0' && c <= '9' || c == '-'
		for _, x := range []struct {
			field string
			good  bool
			want  http.Head
		}{
			{"x" + b + "y: z", letter || c == ':', http.Head{Name: "x" + strings.ToLower(b) + "y", Value: "z"}},
			{b + ": z", letter, http.Head{Name: strings.ToLower(b), Value: "z"}},
			{"x: y" + b + "z", c >= 32 && c <= 126 || c == 9, http.Head{Name: "x", Value: "y" + b + "z"}},
			{"x:" + b, c >= 32 && c <= 126 || c == 9, http.Head{Name: "x", Value: strings.Trim(b, " \t")}},
		} {
			if strings.HasPrefix(x.field, "x:y:") {
				x.want = http.Head{Name: "x", Value: "y: z"}
			}
			want := []http.Item{code(400)}
			if x.good {
				want = []http.Item{got("/")}
				want[0].Req.Heads = append(want[0].Req.Heads, x.want)
			}
			same(t, fmt.Sprintf("%q", x.field), pieces(t, lines("GET / HTTP/1.1", "Host: a", x.field), 9), want)
		}
	}
}

// TestP21_1Counts: just one Host; one field at most that says how the body comes.
func TestP21_1Counts(t *testing.T) {
	for _, l := range [][]string{
		{}, {"Hos: a"}, {"Hosts: a"}, {"X-Host: a"}, {"A: Host: a"}, {"Host: a", "hOST: b"}, {"Host:", "Host:"}, {"host: a", "a: b", "HOST: a"}, {"Host: a", "Host: a", "Host: a"},
		{"Host: a", "Content-Length: 0", "content-length: 0"}, {"Host: a", "Content-Length: 1", "x: y", "Content-Length: 2"}, {"Host: a", "Transfer-Encoding: chunked", "Content-Length: 0"}, {"Host: a", "CONTENT-LENGTH: 0", "TRANSFER-ENCODING: chunked"}, {"Host: a", "Transfer-Encoding: chunked", "Transfer-Encoding: chunked"},
		{"Content-Length: 4097"}, {"Host: a", "Host: a", "Content-Length: 4097"}, {"Host: a", "Content-Length: 4097", "Content-Length: 4097"}, {"Host: a", "Content-Length: 4097", "Transfer-Encoding: chunked"}, {"Host: a", "Content-Length: 4097", "bad"}, {"bad", "Host: a", "Content-Length: 4097"},
	} {
		told(t, lines(append([]string{"GET / HTTP/1.1"}, l...)...), 400)
	}
	told(t, lines("get / HTTP/1.1", "Host: a", "Content-Length: 4097"), 400)
}

func TestP21_1Lengths(t *testing.T) {
	body := strings.Repeat("0123456789abcdef", 256)
	for _, c := range []struct {
		length string
		size   int
	}{{"0", 0}, {"1", 1}, {"01", 1}, {"10", 10}, {"4096", 4096}, {"000000000", 0}, {"000004096", 4096}} {
		all(t, sized(c.length)+body[:c.size]+get("/next"), lengthy(c.length, body[:c.size]), got("/next"))
		if c.size > 0 {
			all(t, sized(c.length)+body[:c.size-1])
		}
	}
	for _, length := range []string{"", "-1", "+1", "1 2", "1,1", "1, 1", "a", "0x1", "1a", "1.0", "1_0", "0000000000", "0000000001", "1000000000", "4294967296", "99999999999999999999", "\"1\"", "chunked"} {
		told(t, sized(length), 400)
	}
	for _, length := range []string{"4097", "04097", "5000", "65536", "999999999"} {
		told(t, sized(length), 413)
	}
	all(t, sized("6")+"\r\n\r\n\x00\xff"+get("/next"), lengthy("6", "\r\n\r\n\x00\xff"), got("/next"))
	all(t, get("/a")+"\r\n\r\n", got("/a"), code(400))
}

func TestP21_1Encodings(t *testing.T) {
	for _, value := range []string{"chunked", "CHUNKED", "Chunked", "\t cHUNKEd "} {
		head := lines("PUT /c HTTP/1.1", "Host: a", "TRANSFER-encoding:"+value)
		all(t, head+"0\r\n\r\n"+get("/"), put("/c", "transfer-encoding", strings.Trim(value, " \t"), ""), got("/"))
	}
	for _, value := range []string{"", "chunke", "chunkedx", "gzip", "gzip, chunked", "chunked, chunked", "chunked;", "identity", "\"chunked\"", "0"} {
		told(t, lines("PUT /c HTTP/1.1", "Host: a", "Transfer-Encoding: "+value), 400)
	}
}

func TestP21_1Chunks(t *testing.T) {
	for _, c := range []struct{ s, body string }{
		{"0\r\n\r\n", ""}, {"00000000\r\n\r\n", ""}, {"1\r\nx\r\n0\r\n\r\n", "x"}, {"00000001\r\nx\r\n00\r\n\r\n", "x"},
		{"a\r\n0123456789\r\n0\r\n\r\n", "0123456789"}, {"A\r\n0123456789\r\n0\r\n\r\n", "0123456789"}, {"1f\r\n" + strings.Repeat("x", 31) + "\r\n0\r\n\r\n", strings.Repeat("x", 31)},
		{"2\r\nab\r\n3\r\ncde\r\n1\r\nf\r\n0\r\n\r\n", "abcdef"}, {"4\r\n\r\n\r\n\r\n4\r\n0\r\n\r\r\n0\r\n\r\n", "\r\n\r\n0\r\n\r"}, {"3\r\n\x00\xff\x80\r\n0\r\n\r\n", "\x00\xff\x80"},
	} {
		all(t, chunks+c.s+get("/next")+chunks+c.s, chunked(c.body), got("/next"), chunked(c.body))
	}
	for _, s := range []string{
		"\r\n", " \r\n", "g\r\n", "G\r\n", "/\r\n", ":\r\n", "@\r\n", "`\r\n", "-1\r\n", "+1\r\n", " 1\r\n", "1 \r\n", "0x1\r\n", "1_0\r\n", "1;a=b\r\n", "1;\r\n", "1\r\r\n", "1\n\r\n", "\x00\r\n", "\xff\r\n", "1g\r\n", "zzzzzzzz\r\n", "1001;\r\n",
		"000000001\r", "000000001\n", "0000000000", "ffffffffff", "gggggggggg", "1\n\n\n\n\n\n\n\n\n", "1\r\r\r\r\r\r\r\r\r", "1;abcdefgh", "         1",
		"1\r\nx\n", "1\r\nxy", "1\r\nx\r\r", "1\r\nx\rx", "1\r\nx0", "1\r\n\r\n", "1\r\n\nx", "2\r\nx\r\n",
		"0\r\nx", "0\r\n\n", "0\r\n0", "0\r\n\r\r", "0\r\n\rx", "1\r\nx\r\n0\r\nT", "1\r\nx\r\n\r\n", "1\r\nx\r\nx\r\n",
	} {
		told(t, chunks+s, 400)
		told(t, chunks+"2\r\nhi\r\n"+s, 400)
	}
}

// TestP21_1Big: chunks up to the greatest body, and one byte above it.
func TestP21_1Big(t *testing.T) {
	body := strings.Repeat("0123456789abcdef", 256)
	all(t, chunks+"1000\r\n"+body+"\r\n0\r\n\r\n"+get("/"), chunked(body), got("/"))
	all(t, chunks+"fff\r\n"+body[:4095]+"\r\n1\r\n"+body[4095:]+"\r\n0\r\n\r\n", chunked(body))
	ones := ""
	for i := range len(body) {
		ones += "00000001\r\n" + body[i:i+1] + "\r\n"
	}
	all(t, chunks+ones+"0\r\n\r\n", chunked(body))
	told(t, chunks+ones+"1\r\n", 413)
	for _, line := range []string{"1001", "00001001", "1fff", "10000", "7fffffff", "80000000", "ffffffff", "FFFFF000"} {
		told(t, chunks+line+"\r\n", 413)
		told(t, chunks+"2\r\nhi\r\n"+line+"\r\n", 413)
	}
	told(t, chunks+"1000\r\n"+body+"\r\n1\r\n", 413)
	told(t, chunks+"800\r\n"+body[:2048]+"\r\n801\r\n", 413)
	told(t, chunks+"1000\r\n"+body+"\r\n00000000;x", 400)
	told(t, chunks+"1000\r\n"+body+"\r\n1;\r\n", 400)
	told(t, chunks+"1000\r\n"+body+"x", 400)
}

// ofSize is a request whose head has so many bytes.
func ofSize(n int) (string, http.Item) {
	fill := strings.Repeat("f", n-len(lines("GET /f HTTP/1.1", "Host: a", "x: ")))
	want := got("/f")
	want.Req.Heads = append(want.Req.Heads, http.Head{Name: "x", Value: fill})
	return lines("GET /f HTTP/1.1", "Host: a", "x: "+fill), want
}

// TestP21_1HeadSize: heads of 1024 bytes and about it, at the beginning and behind others.
func TestP21_1HeadSize(t *testing.T) {
	for _, ahead := range []struct {
		s    string
		want []http.Item
	}{{"", nil}, {get("/a"), []http.Item{got("/a")}}, {sized("3") + "abc", []http.Item{lengthy("3", "abc")}}, {chunks + "0\r\n\r\n", []http.Item{chunked("")}}} {
		for n := 1020; n <= 1024; n++ {
			s, want := ofSize(n)
			all(t, ahead.s+s+get("/next"), append(slices.Clone(ahead.want), want, got("/next"))...)
		}
		big := append(slices.Clone(ahead.want), code(431))
		for n := 1025; n <= 1030; n++ {
			s, _ := ofSize(n)
			all(t, ahead.s+s[:1023], ahead.want...)
			all(t, ahead.s+s[:1024], big...)
			all(t, ahead.s+s, big...)
		}
		all(t, ahead.s+strings.Repeat("\n", 1023), ahead.want...)
		all(t, ahead.s+strings.Repeat("\n", 1024), big...)
	}
	told(t, "g"+strings.Repeat("x", 1019)+"\r\n\r\n", 400)
	told(t, "g"+strings.Repeat("x", 1020)+"\r\n\r", 431)
	told(t, strings.Repeat("\r", 1024), 431)
	told(t, strings.Repeat("\r", 1020)+"\r\n\r\n", 400)
}

// TestP21_1Close: whether the connection is to be closed.
func TestP21_1Close(t *testing.T) {
	for _, c := range []struct {
		fields string
		want   bool
	}{
		{"", false}, {"Connection: close", true}, {"connection:CLOSE", true}, {"CONNECTION: \tClose\t", true}, {"Connection:", false}, {"Connection: keep-alive", false}, {"Connection: close, x", false}, {"Connection: closed", false}, {"Connection: clos", false}, {"Connections: close", false}, {"X: close", false}, {"Close: connection", false},
		{"Connection: Upgrade\r\nConnection: close", true}, {"Connection: close\r\nConnection: Upgrade", true}, {"Connection: x\r\nConnection: y", false}, {"Proxy-Connection: close", false},
	} {
		s := strings.TrimSuffix("GET / HTTP/1.1\r\nHost: a\r\n"+c.fields, "\r\n") + "\r\n\r\n"
		l := pieces(t, s+s+get("/"), 5)
		if len(l) != 3 || l[0].Code != 0 || l[0].Req.Close != c.want || l[1].Req.Close != c.want || l[2].Req.Close {
			t.Errorf("%q: %s", c.fields, tell(l))
		}
	}
	body := lines("PUT / HTTP/1.1", "Host: a", "Connection: close", "Content-Length: 1") + "x"
	if l := pieces(t, body, 3); len(l) != 1 || !l[0].Req.Close {
		t.Errorf("with a body: %s", tell(l))
	}
}

// TestP21_1Rows: several requests in one piece, with something wrong at last.
func TestP21_1Rows(t *testing.T) {
	ahead := get("/1") + sized("5") + "hello" + chunks + "3\r\nabc\r\n0\r\n\r\n" + get("/2")
	want := []http.Item{got("/1"), lengthy("5", "hello"), chunked("abc"), got("/2")}
	all(t, ahead, want...)
	for _, c := range []struct {
		s    string
		code int
	}{{"GET /\r\n\r\n", 400}, {sized("4097"), 413}, {sized("x"), 400}, {chunks + "1001\r\n", 413}, {chunks + "x\r\n", 400}, {strings.Repeat("GET", 342), 431}, {"\r\n\r\n", 400}} {
		all(t, ahead+c.s, append(slices.Clone(want), code(c.code))...)
		all(t, ahead+c.s+ahead, append(slices.Clone(want), code(c.code))...)
	}
	many := strings.Repeat(ahead, 100)
	all(t, many, slices.Repeat(want, 100)...)
}

// TestP21_1Dead: behind a code nothing is read.
func TestP21_1Dead(t *testing.T) {
	var p http.Parser
	same(t, "a good one", p.Feed([]byte(get("/"))), []http.Item{got("/")})
	check(t, "Dead", p.Dead(), false)
	same(t, "a wrong one", p.Feed([]byte(get("x"))), []http.Item{code(400)})
	for range 3 {
		check(t, "Dead", p.Dead(), true)
		same(t, "behind it", p.Feed([]byte(get("/"))), nil)
		same(t, "nothing", p.Feed(nil), nil)
	}
}

func TestP21_3Value(t *testing.T) {
	r := http.Request{Method: "m", Target: "t", Body: "b", Heads: []http.Head{{"a", "1"}, {"b", ""}, {"a", "2"}, {"b", "3"}, {"C", "4"}, {"", "5"}, {" d", "6"}, {"\xff", "\xfe"}, {"é", "É"}}}
	for name, want := range map[string]string{"a": "1", "b": "", "C": "4", "c": "", "A": "", "": "5", " d": "6", "d": "", "\xff": "\xfe", "é": "É", "É": "", "e": "", "1": "", "m": ""} {
		check(t, fmt.Sprintf("%q", name), fmt.Sprintf("%q", http.Value(r, name)), fmt.Sprintf("%q", want))
	}
	check(t, "of no fields", http.Value(http.Request{}, ""), "")
	read := pieces(t, lines("GET / HTTP/1.1", "HOST: a", "X-Request: r1", "x-request: r2"), 9)
	check(t, "of what was read", []string{http.Value(read[0].Req, "host"), http.Value(read[0].Req, "x-request"), http.Value(read[0].Req, "X-Request")}, []string{"a", "r1", ""})
}

func TestP21_3Reason(t *testing.T) {
	reasons := map[int]string{
		101: "Switching Protocols", 200: "OK", 307: "Temporary Redirect", 400: "Bad Request", 401: "Unauthorized", 403: "Forbidden", 404: "Not Found", 405: "Method Not Allowed", 409: "Conflict",
		413: "Content Too Large", 431: "Request Header Fields Too Large", 503: "Service Unavailable", 507: "Insufficient Storage",
	}
	for c := -700; c < 1000; c++ {
		want, ok := reasons[c]
		if !ok {
			want = "Status"
		}
		check(t, fmt.Sprint("Reason of ", c), http.Reason(c), want)
		check(t, fmt.Sprint("Write of ", c), strings.HasPrefix(string(http.Write(http.Answer{Code: c})), fmt.Sprintf("HTTP/1.1 %d %s\r\n", c, want)), true)
	}
	check(t, "the least", http.Reason(math.MinInt), "Status")
	check(t, "the greatest", http.Reason(math.MaxInt), "Status")
}

func TestP21_3Write(t *testing.T) {
	l := []http.Head{{"x-leader", "2"}, {"B", ""}, {"", "c"}, {"d: e\r\n", "\r\n\xff\x00"}, {"content-length", "9"}, {"connection", "x"}}
	fields := "x-leader: 2\r\nB: \r\n: c\r\nd: e\r\n: \r\n\xff\x00\r\ncontent-length: 9\r\nconnection: x\r\n"
	long := strings.Repeat("\x00é\xff\r\n", 20000)
	for _, c := range []struct {
		a    http.Answer
		want string
	}{
		{http.Answer{Code: 200, Body: "hi"}, "HTTP/1.1 200 OK\r\ncontent-length: 2\r\n\r\nhi"},
		{http.Answer{Code: 200, Body: "hi", Close: true}, "HTTP/1.1 200 OK\r\ncontent-length: 2\r\nconnection: close\r\n\r\nhi"},
		{http.Answer{Code: 307, Heads: l}, "HTTP/1.1 307 Temporary Redirect\r\n" + fields + "content-length: 0\r\n\r\n"},
		{http.Answer{Code: 307, Heads: l, Body: "é", Close: true}, "HTTP/1.1 307 Temporary Redirect\r\n" + fields + "content-length: 2\r\nconnection: close\r\n\r\né"},
		{http.Answer{Code: 101}, "HTTP/1.1 101 Switching Protocols\r\n\r\n"},
		{http.Answer{Code: 101, Heads: l[:1], Body: "hi"}, "HTTP/1.1 101 Switching Protocols\r\nx-leader: 2\r\n\r\nhi"},
		{http.Answer{Code: 101, Heads: l, Close: true}, "HTTP/1.1 101 Switching Protocols\r\n" + fields + "connection: close\r\n\r\n"},
		{http.Answer{}, "HTTP/1.1 0 Status\r\ncontent-length: 0\r\n\r\n"},
		{http.Answer{Code: -5, Body: long}, "HTTP/1.1 -5 Status\r\ncontent-length: 120000\r\n\r\n" + long},
		{http.Answer{Code: math.MinInt}, "HTTP/1.1 -9223372036854775808 Status\r\ncontent-length: 0\r\n\r\n"},
		{http.Answer{Code: math.MaxInt, Heads: []http.Head{}}, "HTTP/1.1 9223372036854775807 Status\r\ncontent-length: 0\r\n\r\n"},
	} {
		check(t, fmt.Sprintf("%.80v", c.a), fmt.Sprintf("%q", http.Write(c.a)), fmt.Sprintf("%q", c.want))
	}
}

// roomy is a list with room behind it, in which something stands.
func roomy[T any](l []T, x T) []T {
	m := append(make([]T, 0, len(l)+5), l...)
	fill(m[len(m):], x)
	return m
}

func fill[T any](l []T, x T) {
	for i := range l[:cap(l)] {
		l[:cap(l)][i] = x
	}
}

// TestP21_4Feed: what is fed isn't changed, nor the room behind it; it may be written over, and so may what was answered.
func TestP21_4Feed(t *testing.T) {
	s := get("/1") + sized("5") + "hello" + chunks + "3\r\nabc\r\n2\r\nde\r\n0\r\n\r\n" + get("/2") + "x\r\n\r\n"
	want := []http.Item{got("/1"), lengthy("5", "hello"), chunked("abcde"), got("/2"), code(400)}
	for at := range len(s) {
		var p http.Parser
		var l []http.Item
		for _, piece := range []string{s[:at], s[at:]} {
			b := roomy([]byte(piece), 'r')
			was := string(b[:cap(b)])
			l = append(l, p.Feed(b)...)
			check(t, "what was fed, and the room behind it", string(b[:cap(b)]), was)
			fill(b, 'z')
		}
		same(t, fmt.Sprintf("cut at %d, and written over", at), l, want)
		for i := range l {
			fill(l[i].Req.Heads, http.Head{Name: "?", Value: "?"})
			same(t, "what stands behind what is written over", l[i+1:], want[i+1:])
		}
	}
}

// TestP21_4Copies: a copy of a Parser goes on by itself.
func TestP21_4Copies(t *testing.T) {
	s := sized("5") + "hello" + chunks + "3\r\nabc\r\n2\r\nde\r\n0\r\n\r\n" + get("/2")
	want := []http.Item{lengthy("5", "hello"), chunked("abcde"), got("/2")}
	for at := range len(s) {
		var p http.Parser
		l := p.Feed([]byte(s[:at]))
		q := p
		more := p.Feed([]byte(s[at:]))
		for i := range more {
			fill(more[i].Req.Heads, http.Head{Name: "?", Value: "?"})
		}
		p.Feed([]byte("x\r\n\r\n"))
		same(t, fmt.Sprintf("the copy at %d", at), append(l, q.Feed([]byte(s[at:]))...), want)
	}
}

func TestP21_4Answers(t *testing.T) {
	l := roomy([]http.Head{{"a", "1"}, {"b", "2"}}, http.Head{Name: "spare", Value: "spare"})
	was := fmt.Sprint(l[:cap(l)])
	a := http.Answer{Code: 200, Heads: l, Body: "body", Close: true}
	first, second := http.Write(a), http.Write(a)
	want := string(second)
	http.Value(http.Request{Heads: l}, "b")
	check(t, "the fields, and the room behind them", fmt.Sprint(l[:cap(l)]), was)
	fill(first, 'z')
	fill(l, http.Head{})
	check(t, "when another answer is written over", string(second), want)
	name, value := []byte("name"), []byte("value")
	v := http.Value(http.Request{Heads: []http.Head{{unsafe.String(&name[0], len(name)), unsafe.String(&value[0], len(value))}}}, "name")
	fill(value, 'z')
	check(t, "when the value is written over", v, "value")
}

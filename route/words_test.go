package route_test

import (
	stdjson "encoding/json"
	"fmt"
	"math/rand"
	"reflect"
	"regexp"
	"slices"
	"strconv"
	"strings"
	"testing"
	"unicode/utf8"

	"parley/api"
	"parley/http"
	"parley/index"
	"parley/json"
	"parley/route"
	"parley/session"
	"parley/space"
)

// rule is a row of the table as the document has it.
type rule struct {
	method, path, form string
	kind, cmd          int
}

var rules = []rule{
	{"POST", "/users", "name s", route.Command, space.AddUser},
	{"POST", "/login", "name s", route.Login, 0},
	{"POST", "/channels", "name s, closed b?", route.Command, space.AddChan},
	{"GET", "/channels", "", route.Channels, 0},
	{"POST", "/channels/N/join", "", route.Command, space.Join},
	{"POST", "/channels/N/leave", "", route.Command, space.Leave},
	{"POST", "/channels/N/invite", "user s", route.Command, space.Invite},
	{"GET", "/channels/N/posts", "", route.Posts, 0},
	{"POST", "/channels/N/posts", "text s, parent n?", route.Command, space.Post},
	{"POST", "/channels/N/read", "post n", route.Command, space.Read},
	{"POST", "/posts/N/edit", "text s", route.Command, space.Edit},
	{"POST", "/posts/N/react", "name s", route.Command, space.React},
	{"DELETE", "/posts/N", "", route.Command, space.Delete},
	{"GET", "/search/WORD", "", route.Search, 0},
	{"GET", "/events/N", "", route.Events, 0},
}

var pathParts = strings.NewReplacer("N", "(?P<n>0|[1-9][0-9]{0,5})", "WORD", "(?P<word>[^/]+)")

// patterns are those of the rules' paths.
var patterns = func() map[string]*regexp.Regexp {
	m := map[string]*regexp.Regexp{}
	for _, x := range rules {
		m[x.path] = regexp.MustCompile("^" + pathParts.Replace(x.path) + "$")
	}
	return m
}()

// has answers what the target has at the places of N and WORD.
func (x rule) has(target string) (n int, word string, ok bool) {
	re := patterns[x.path]
	m := re.FindStringSubmatch(target)
	if m == nil {
		return 0, "", false
	}
	if i := re.SubexpIndex("n"); i > 0 {
		n, _ = strconv.Atoi(m[i])
	}
	if i := re.SubexpIndex("word"); i > 0 {
		word = m[i]
	}
	return n, word, true
}

// read answers the values of a body by their keys, if it is of the form.
func (x rule) read(body string) (map[string]api.J, bool) {
	got := map[string]api.J{}
	if x.form == "" {
		return got, body == ""
	}
	j, e := json.Parse(body)
	if e != api.OK || j.Kind != json.Object {
		return nil, false
	}
	for i, k := range j.Keys {
		got[k] = j.List[i]
	}
	left := len(got)
	for _, f := range strings.Split(x.form, ", ") {
		key, kind, _ := strings.Cut(f, " ")
		v, is := got[key]
		if is {
			left--
		}
		kinds := map[byte][]int{'s': {json.String}, 'n': {json.Number}, 'b': {json.True, json.False}}[kind[0]]
		if is && !slices.Contains(kinds, v.Kind) || !is && !strings.HasSuffix(kind, "?") {
			return nil, false
		}
	}
	return got, left == 0
}

// first is a request's first field of that name.
func first(r http.Request, name string) string {
	for _, h := range r.Heads {
		if h.Name == name {
			return h.Value
		}
	}
	return ""
}

// second is Plan by the document's words.
func second(r http.Request, key string, now int) route.Action {
	var l []rule
	for _, x := range rules {
		if _, _, ok := x.has(r.Target); ok {
			l = append(l, x)
		}
	}
	if len(l) == 0 {
		return route.Action{Code: 404}
	}
	l = slices.DeleteFunc(l, func(x rule) bool { return x.method != r.Method })
	if len(l) == 0 {
		return route.Action{Code: 405}
	}
	x := l[0]
	n, word, _ := x.has(r.Target)
	user := ""
	if x.path != "/users" && x.path != "/login" {
		value := first(r, "authorization")
		var e api.Errno
		if user, e = session.Verify([]byte(key), value[min(7, len(value)):], now); e != api.OK || value[:7] != "Bearer " {
			return route.Action{Code: 401}
		}
	}
	body, ok := x.read(r.Body)
	req := first(r, "x-request")
	if !ok || x.kind == route.Command && len(req) > 16 {
		return route.Action{Code: 400}
	}
	switch x.kind {
	case route.Login:
		return route.Action{Kind: route.Login, User: body["name"].Str}
	case route.Command:
		return route.Action{Kind: route.Command, Cmd: x.command(n, user, req, body)}
	}
	return route.Action{Kind: x.kind, User: user, N: n, Word: word}
}

func (x rule) command(n int, user, req string, body map[string]api.J) api.Cmd {
	c := api.Cmd{Req: req, User: user, Kind: x.cmd, N: n, M: -1}
	switch x.cmd {
	case space.AddUser, space.React:
		c.A = body["name"].Str
	case space.AddChan:
		c.A = body["name"].Str
		if body["closed"].Kind == json.True {
			c.N = 1
		}
	case space.Invite:
		c.A = body["user"].Str
	case space.Post:
		c.A = body["text"].Str
		if v, ok := body["parent"]; ok {
			c.M = v.Num
		}
	case space.Read:
		c.M = body["post"].Num
	case space.Edit:
		c.A = body["text"].Str
	}
	return c
}

// source makes things by chance.
type source struct {
	*rand.Rand
}

func (r *source) pick(l ...string) string {
	return l[r.Intn(len(l))]
}

// seldom is s most of the time, and else one of the others.
func (r *source) seldom(often int, s string, others ...string) string {
	if r.Intn(often) > 0 {
		return s
	}
	return r.pick(others...)
}

// spoilt is s, now and then with a byte more, less, or altered.
func (r *source) spoilt(often int, s string) string {
	if r.Intn(often) > 0 || s == "" {
		return s
	}
	i := r.Intn(len(s))
	switch c := r.pick("/", "0", "7", "N", " ", `"`, "{", "}", ",", ":", "\xff", "?", "a", "true", "null"); r.Intn(3) {
	case 0:
		return s[:i] + s[i+1:]
	case 1:
		return s[:i] + c + s[i:]
	default:
		return s[:i] + c + s[i+1:]
	}
}

func (r *source) number() string {
	return r.seldom(12, r.pick("0", "1", "7", "42", "999999", fmt.Sprint(r.Intn(1000000))), "00", "01", "-1", "+1", "1000000", "", "a", "1.0", "0000001")
}

// value is a value of a form's kind, most of the time.
func (r *source) value(kind byte) string {
	switch r.seldom(25, string(kind), "s", "n", "b", "x") {
	case "s":
		return r.pick(`"a"`, `"ann"`, `"hi | ho"`, `"\u00e9\n"`, `""`, `"😀"`)
	case "n":
		return r.pick("0", "1", "-1", "3", "-7", "9007199254740992", "-9007199254740992")
	case "b":
		return r.pick("true", "false")
	}
	return r.pick("null", "[]", "{}", "1.5", "9007199254740993", "01", `["a"]`)
}

// body is a body of the form, most of the time.
func (r *source) body(form string) string {
	if form == "" {
		return r.seldom(25, "", " ", "{}", "null", "x")
	}
	var l []string
	for _, f := range strings.Split(form, ", ") {
		key, kind, _ := strings.Cut(f, " ")
		if !strings.HasSuffix(kind, "?") && r.Intn(25) > 0 || r.Intn(2) == 0 {
			l = append(l, `"`+key+`"`+r.pick("", " ")+":"+r.pick("", "\r\n")+r.value(kind[0]))
		}
	}
	if r.Intn(25) == 0 {
		l = append(l, `"`+r.pick("name", "text", "x", "", "parent", "closed", "post", "user")+`":`+r.value('s'))
	}
	r.Shuffle(len(l), func(i, j int) { l[i], l[j] = l[j], l[i] })
	return r.spoilt(25, r.pick("", " ")+"{"+strings.Join(l, r.pick(",", " , "))+"}"+r.pick("", "\n"))
}

// request is one, most of which is in order.
func (r *source) request(key string, now int) http.Request {
	x := rules[r.Intn(len(rules))]
	target := strings.NewReplacer("N", r.number(), "WORD", r.seldom(12, r.pick("hi", "é", "%20", "\xff", "N"), "", "a/b", "/")).Replace(x.path)
	q := http.Request{Method: r.seldom(25, x.method, "GET", "POST", "DELETE", "PUT", "get", ""), Target: r.spoilt(25, target), Body: r.body(x.form), Close: r.Intn(2) == 0}
	if r.Intn(25) == 0 {
		q.Body = r.body(rules[r.Intn(len(rules))].form)
	}
	for range r.Intn(3) {
		q.Heads = append(q.Heads, head(r.pick("host", "Authorization", "x-leader", "x-reques"), r.pick("", "a", "Bearer a")))
	}
	if r.Intn(3) > 0 {
		q.Heads = append(q.Heads, head("x-request", r.spoilt(9, r.seldom(9, r.pick("r1", "r2", "a|b", ""), "1234567890123456", "12345678901234567"))))
	}
	if r.Intn(12) > 0 {
		t := r.spoilt(25, token(r.seldom(12, key, "x"), r.pick("ann", "bob", "z"), now+r.Intn(12)-1))
		q.Heads = append(q.Heads, head("authorization", r.seldom(25, "Bearer ", "bearer ", "Bearer", "", "Bearer  ", "Bearer")+t))
	}
	r.Shuffle(len(q.Heads), func(i, j int) { q.Heads[i], q.Heads[j] = q.Heads[j], q.Heads[i] })
	return q
}

// TestP23_1Any: any requests, most of them nearly right, against the words.
func TestP23_1Any(t *testing.T) {
	r := &source{rand.New(rand.NewSource(231))}
	codes, kinds, cmds := map[int]int{}, map[int]int{}, map[int]int{}
	for range 60000 {
		key, now := r.pick("", "k", "key"), r.Intn(20)+1
		q := r.request(key, now)
		got, want := route.Plan(q, []byte(key), now), second(q, key, now)
		if got != want {
			t.Fatalf("%+v at %d: %+v\nnot %+v", q, now, got, want)
		}
		codes[got.Code]++
		kinds[got.Kind]++
		cmds[got.Cmd.Kind]++
		if got.Kind == route.Command {
			holdPack(t, got.Cmd)
		}
	}
	for _, c := range []int{0, 400, 401, 404, 405} {
		if codes[c] < 500 {
			t.Errorf("code %d came %d times", c, codes[c])
		}
	}
	for k := 1; k <= 6; k++ {
		if kinds[k] < 500 {
			t.Errorf("kind %d came %d times", k, kinds[k])
		}
	}
	for k := 1; k <= 10; k++ {
		if cmds[k] < 500 {
			t.Errorf("command %d came %d times", k, cmds[k])
		}
	}
}

// TestP23_1AnyMethods: any targets: the methods of all rows that have them.
func TestP23_1AnyMethods(t *testing.T) {
	r := &source{rand.New(rand.NewSource(232))}
	some := 0
	for range 20000 {
		target := r.spoilt(3, r.request("", 1).Target)
		var want []string
		for _, x := range rules {
			if _, _, ok := x.has(target); ok && !slices.Contains(want, x.method) {
				want = append(want, x.method)
			}
		}
		if got := route.Methods(target); !slices.Equal(got, want) {
			t.Fatalf("%q: %q, not %q", target, got, want)
		}
		some += len(want)
	}
	if some < 1000 || some > 30000 {
		t.Errorf("%d methods in all", some)
	}
}

// holdPack holds what comes of a command against the words.
func holdPack(t *testing.T, c api.Cmd) {
	t.Helper()
	text := fmt.Sprintf("%d|%d|%d|%s|%s|%s", c.Kind, c.N, c.M, c.Req, c.User, c.A)
	want := api.OK
	switch {
	case len(text) > 80:
		text, want = "", api.ErrBig
	case strings.Contains(c.Req+c.User, "|") || c.B != "":
		text, want = "", api.ErrForm
	}
	s, e := route.Pack(c)
	if s != text || e != want {
		t.Fatalf("Pack of %+v: %q, %d, not %q, %d", c, s, e, text, want)
	}
	if e != api.OK {
		return
	}
	if back, e := route.Unpack(s); back != c || e != api.OK {
		t.Fatalf("Unpack of %q: %+v, %d", s, back, e)
	}
}

func (r *source) int() int {
	return []int{0, 1, -1, 6, 10, 999999, r.Intn(1000) - 500, r.Int(), -r.Int(), 1<<63 - 1, -1 << 63}[r.Intn(11)]
}

func (r *source) text(most int) string {
	b := make([]byte, r.Intn(most+1))
	for i := range b {
		b[i] = "ann01-\xff\x00é |"[r.Intn(12)]
		if r.Intn(9) == 0 {
			b[i] = '|'
		}
	}
	return string(b)
}

// TestP23_3Any: any commands.
func TestP23_3Any(t *testing.T) {
	r := &source{rand.New(rand.NewSource(233))}
	for range 50000 {
		c := api.Cmd{Kind: r.int(), N: r.int(), M: r.int(), Req: r.text(r.Intn(20)), User: r.text(r.Intn(20)), A: r.text(r.Intn(80))}
		if r.Intn(2) == 0 {
			c.Req, c.User = strings.ReplaceAll(c.Req, "|", ""), strings.ReplaceAll(c.User, "|", "")
		}
		if r.Intn(20) == 0 {
			c.B = r.text(3)
		}
		holdPack(t, c)
	}
}

var aPack = regexp.MustCompile(`(?s)^(0|-?[1-9][0-9]*)\|(0|-?[1-9][0-9]*)\|(0|-?[1-9][0-9]*)\|([^|]*)\|([^|]*)\|(.*)$`)

// unpacked is Unpack by the document's words.
func unpacked(s string) (api.Cmd, api.Errno) {
	m := aPack.FindStringSubmatch(s)
	if m == nil {
		return api.Cmd{}, api.ErrText
	}
	var n [3]int
	for i := range n {
		x, err := strconv.ParseInt(m[1+i], 10, 64)
		if err != nil {
			return api.Cmd{}, api.ErrText
		}
		n[i] = int(x)
	}
	return api.Cmd{Kind: n[0], N: n[1], M: n[2], Req: m[4], User: m[5], A: m[6]}, api.OK
}

// TestP23_3AnyTexts: any texts, most of them nearly right.
func TestP23_3AnyTexts(t *testing.T) {
	r := &source{rand.New(rand.NewSource(234))}
	good := 0
	for range 50000 {
		s := ""
		for range 3 {
			s += r.seldom(20, fmt.Sprint(r.int()), "", "00", "-0", "+1", "01", " 1", "1 ", "9223372036854775808", "-9223372036854775809", "1e1", "0x1") + r.seldom(30, "|", "", ",", "||")
		}
		s = r.spoilt(5, s+r.text(5)+"|"+r.text(5)+"|"+r.text(90))
		got, e := route.Unpack(s)
		want, wantE := unpacked(s)
		if got != want || e != wantE {
			t.Fatalf("%q: %+v, %d, not %+v, %d", s, got, e, want, wantE)
		}
		if e == api.OK {
			good++
		}
	}
	if good < 10000 || good > 45000 {
		t.Errorf("%d of 50000 were commands", good)
	}
}

// cmd is any command of few users in few channels, most of which are in order.
func (r *source) cmd(s api.Space) api.Cmd {
	kinds := []int{1, 1, 2, 2, 3, 3, 3, 4, 5, 5, 6, 6, 6, 6, 6, 6, 6, 6, 7, 7, 8}
	c := api.Cmd{Kind: kinds[r.Intn(len(kinds))], User: fmt.Sprint("u", r.Intn(4)), N: r.Intn(len(s.Chans) + 1), M: -1}
	switch c.Kind {
	case space.AddUser, space.Invite:
		c.A = fmt.Sprint("u", r.Intn(4))
	case space.AddChan:
		c.A, c.N = fmt.Sprint("c", r.Intn(5)), r.Intn(4)/3
	case space.Post:
		c.A = r.words()
		c.M = r.Intn(len(s.Posts)+3) - 2
		if c.M < 0 || r.Intn(2) == 0 {
			c.M = -1
		}
	case space.Edit, space.Delete:
		c.A, c.N = r.words(), r.Intn(len(s.Posts)+1)
	}
	return c
}

func (r *source) words() string {
	s := r.pick("a", "b", "é")
	for range r.Intn(5) {
		s += r.pick(" ", ", ", "\n", `"`, `\`) + r.pick("a", "B", "b", "É", "x", "<&>")
	}
	return s
}

// view is what the words ask of a view: the code, the key, what it holds.
func view(s api.Space, a route.Action) (int, string, any) {
	u := slices.Index(s.Users, a.User)
	isIn := func(c int) bool { return slices.Contains(s.Chans[c].Members, u) }
	failed := func(code int) (int, string, any) { return code, "error", float64(code) }
	if u < 0 {
		return failed(403)
	}
	l := []any{}
	switch a.Kind {
	case route.Channels:
		for c, x := range s.Chans {
			if isIn(c) {
				l = append(l, x.Name)
			}
		}
		return 200, "channels", l
	case route.Posts:
		if a.N < 0 || a.N >= len(s.Chans) {
			return failed(404)
		}
		if !isIn(a.N) {
			return failed(403)
		}
		for i := len(s.Posts) - 1; i >= 0 && len(l) < 20; i-- {
			if p := s.Posts[i]; p.Chan == a.N && !p.Gone {
				l = append([]any{[]any{float64(i), s.Users[p.User], p.Text, float64(p.Parent)}}, l...)
			}
		}
		return 200, "posts", l
	case route.Search:
		if !utf8.ValidString(a.Word) {
			return failed(400)
		}
		x := index.New()
		for i, p := range s.Posts {
			if isIn(p.Chan) && !p.Gone {
				x.Put(i, p.Text)
			}
		}
		hits, _ := x.Find(a.Word, 1, 20)
		for _, h := range hits {
			l = append(l, float64(h.Post))
		}
		return 200, "found", l
	}
	return failed(400)
}

// TestP23_2Any: any views of any workspaces, against the words.
func TestP23_2Any(t *testing.T) {
	came := map[string]int{}
	for seed := range int64(60) {
		r := &source{rand.New(rand.NewSource(seed))}
		var s api.Space
		for step := range 250 {
			s, _, _ = space.Apply(s, r.cmd(s))
			if step%3 > 0 {
				continue
			}
			a := route.Action{Kind: 1 + r.Intn(7), User: fmt.Sprint("u", r.Intn(9)/2), N: r.Intn(len(s.Chans)+2) - 1, Word: r.seldom(9, r.words(), "", "\xff", "nowhere")}
			if a.Kind == route.Login {
				continue
			}
			code, key, want := view(s, a)
			got := route.View(s, a, []byte(secret), step)
			var body map[string]any
			if e := stdjson.Unmarshal([]byte(got.Body), &body); e != nil || len(body) != 1 {
				t.Fatalf("%+v: %q is no object of one key", a, got.Body)
			}
			if got.Code != code || !reflect.DeepEqual(body[key], want) {
				t.Fatalf("%+v: %+v\nnot %d, %s: %v", a, got, code, key, want)
			}
			came[key]++
		}
	}
	for _, key := range []string{"error", "channels", "posts", "found"} {
		if came[key] < 100 {
			t.Errorf("%s came %d times", key, came[key])
		}
	}
}

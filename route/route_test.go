package route_test

import (
	"fmt"
	"math"
	"slices"
	"strings"
	"testing"
	"unsafe"

	"parley/api"
	"parley/http"
	"parley/route"
	"parley/session"
	"parley/space"
)

func check(t *testing.T, what string, got, want any) {
	t.Helper()
	if g, w := fmt.Sprintf("%+v", got), fmt.Sprintf("%+v", want); g != w {
		t.Errorf("%s: %.1000s, not %.1000s", what, g, w)
	}
}

// The tokens of the tests are good ahead of tick 9, and have this key.
const (
	secret = "k"
	until  = 9
)

func token(key, user string, until int) string {
	s, _ := session.Issue([]byte(key), user, until)
	return s
}

func head(name, value string) http.Head {
	return http.Head{Name: name, Value: value}
}

// auth is the field that says that a request is a user's.
func auth(user string) http.Head {
	return head("authorization", "Bearer "+token(secret, user, until))
}

func request(method, target, body string, heads ...http.Head) http.Request {
	return http.Request{Method: method, Target: target, Heads: heads, Body: body}
}

// planned holds what a request asks for at tick 4.
func planned(t *testing.T, r http.Request, want route.Action) {
	t.Helper()
	if a := route.Plan(r, []byte(secret), 4); a != want {
		t.Errorf("%.300q: %.500s\nnot %.500s", fmt.Sprint(r), fmt.Sprintf("%+v", a), fmt.Sprintf("%+v", want))
	}
}

func refused(t *testing.T, r http.Request, code int) {
	t.Helper()
	planned(t, r, route.Action{Code: code})
}

func asked(c api.Cmd) route.Action {
	return route.Action{Kind: route.Command, Cmd: c}
}

// line is a row of the document's table: a request that it takes, and what ann asks for with that.
type line struct {
	method, target, body string
	open                 bool // it wants no token
	want                 route.Action
}

var table = []line{
	{"POST", "/users", `{"name":"bob"}`, true, asked(api.Cmd{Kind: 1, A: "bob", M: -1})},
	{"POST", "/login", `{"name":"bob"}`, true, route.Action{Kind: 2, User: "bob"}},
	{"POST", "/channels", `{"name":"general"}`, false, asked(api.Cmd{Kind: 2, User: "ann", A: "general", M: -1})},
	{"POST", "/channels", `{"name":"general","closed":true}`, false, asked(api.Cmd{Kind: 2, User: "ann", A: "general", N: 1, M: -1})},
	{"POST", "/channels", `{"name":"general","closed":false}`, false, asked(api.Cmd{Kind: 2, User: "ann", A: "general", M: -1})},
	{"GET", "/channels", "", false, route.Action{Kind: 3, User: "ann"}},
	{"POST", "/channels/7/join", "", false, asked(api.Cmd{Kind: 3, User: "ann", N: 7, M: -1})},
	{"POST", "/channels/7/leave", "", false, asked(api.Cmd{Kind: 4, User: "ann", N: 7, M: -1})},
	{"POST", "/channels/7/invite", `{"user":"bob"}`, false, asked(api.Cmd{Kind: 5, User: "ann", N: 7, A: "bob", M: -1})},
	{"GET", "/channels/7/posts", "", false, route.Action{Kind: 4, User: "ann", N: 7}},
	{"POST", "/channels/7/posts", `{"text":"hi"}`, false, asked(api.Cmd{Kind: 6, User: "ann", N: 7, A: "hi", M: -1})},
	{"POST", "/channels/7/posts", `{"text":"hi","parent":3}`, false, asked(api.Cmd{Kind: 6, User: "ann", N: 7, A: "hi", M: 3})},
	{"POST", "/channels/7/read", `{"post":5}`, false, asked(api.Cmd{Kind: 10, User: "ann", N: 7, M: 5})},
	{"POST", "/posts/7/edit", `{"text":"ho"}`, false, asked(api.Cmd{Kind: 7, User: "ann", N: 7, A: "ho", M: -1})},
	{"POST", "/posts/7/react", `{"name":"ok"}`, false, asked(api.Cmd{Kind: 9, User: "ann", N: 7, A: "ok", M: -1})},
	{"DELETE", "/posts/7", "", false, asked(api.Cmd{Kind: 8, User: "ann", N: 7, M: -1})},
	{"GET", "/search/word", "", false, route.Action{Kind: 5, User: "ann", Word: "word"}},
	{"GET", "/events/7", "", false, route.Action{Kind: 6, User: "ann", N: 7}},
}

func TestP23_1Examples(t *testing.T) {
	planned(t, request("POST", "/users", `{"name":"ann"}`), asked(api.Cmd{Kind: 1, A: "ann", M: -1}))
	refused(t, request("GET", "/users", ""), 405)
	refused(t, request("GET", "/nothing", ""), 404)
	refused(t, request("POST", "/channels", `{"name":"a"}`), 401)
	refused(t, request("POST", "/channels", `{"name":1}`, auth("ann")), 400)
	refused(t, request("POST", "/channels", `{"name":"a","x":1}`, auth("ann")), 400)
}

func TestP23_1Constants(t *testing.T) {
	check(t, "kinds", []int{route.Refuse, route.Command, route.Login, route.Channels, route.Posts, route.Search, route.Events}, []int{0, 1, 2, 3, 4, 5, 6})
	check(t, "limits", []int{route.Good, route.MaxView}, []int{1000, 20})
}

// TestP23_1Rows: each row, with other fields about, and with a request's own name.
func TestP23_1Rows(t *testing.T) {
	for _, x := range table {
		planned(t, request(x.method, x.target, x.body, auth("ann")), x.want)
		planned(t, request(x.method, x.target, x.body, head("host", "a"), head("x-requests", "r0"), auth("ann"), head("x-leader", "2")), x.want)
		r := request(x.method, x.target, x.body, head("x-request", "r1"), auth("ann"), head("x-request", "r2"))
		r.Close = true
		want := x.want
		if want.Kind == route.Command {
			want.Cmd.Req = "r1"
		}
		planned(t, r, want)
		bare := request(x.method, x.target, x.body)
		if x.open {
			planned(t, bare, x.want)
			planned(t, request(x.method, x.target, x.body, head("authorization", "Bearer nonsense")), x.want)
		} else {
			refused(t, bare, 401)
		}
	}
}

// TestP23_1Targets: what no row has.
func TestP23_1Targets(t *testing.T) {
	for _, target := range []string{
		"", "/", "//", "users", "users/", "/users/", "//users", "/Users", "/USERS", "/user", "/userss", "/users?", "/users?a=b", "/users#", "/users/0", "/%75sers", " /users", "/users ", "http://a/users",
		"/login/", "login", "/Login", "/login/ann", "/channel", "/channels/", "/channels//", "/channels/7", "/channels/7/", "/channels/x", "/channels?x",
		"/channels/7/join/", "/channels/7/joi", "/channels/7/Join", "/channels/7//join", "/channels//join", "/channels/join", "/channel/7/join", "channels/7/join", "//channels/7/join", "/channels/7/join/7", "/channels/7/invite/bob", "/channels/7/posts/", "/channels/7/posts/1", "/channels/7/posts?x", "/channels/7/post", "/channels/7/edit", "/channels/7/react", "/channels/7/reads", "/channels/N/posts", "/posts/N",
		"/posts", "/posts/", "/posts//", "/posts/7/", "/posts/7/delete", "/posts/7/join", "/posts/7/posts", "/posts//edit", "/posts/edit", "/posts/7/edit/", "/posts/7/Edit", "/posts/7/react/ok",
		"/search", "/search/", "/search//", "/search/a/", "/search/a/b", "/search//a", "/Search/a", "search/a", "/events", "/events/", "/events//", "/events/7/", "/events/x", "/event/7", "/events/7/8",
	} {
		for _, method := range []string{"GET", "POST", "DELETE", "PUT", ""} {
			refused(t, request(method, target, ""), 404)
			refused(t, request(method, target, `{"name":"ann"}`, auth("ann"), head("x-request", strings.Repeat("r", 17))), 404)
		}
		check(t, fmt.Sprintf("methods of %q", target), len(route.Methods(target)), 0)
	}
}

// TestP23_1Numbers: one to six digits, no 0 ahead of others.
func TestP23_1Numbers(t *testing.T) {
	for _, x := range table {
		if !strings.Contains(x.target, "7") {
			continue
		}
		for _, n := range []int{0, 1, 7, 9, 10, 19, 42, 99, 100, 1000, 12345, 99999, 100000, 123456, 999998, 999999} {
			target := strings.Replace(x.target, "7", fmt.Sprint(n), 1)
			want := x.want
			if want.Kind == route.Command {
				want.Cmd.N = n
			} else {
				want.N = n
			}
			planned(t, request(x.method, target, x.body, auth("ann")), want)
			check(t, target, len(route.Methods(target)) > 0, true)
		}
		for _, n := range []string{"", "00", "07", "000007", "-1", "-0", "-7", "+7", "+0", " 7", "7 ", "7.", "7.0", "7e0", "0x7", "1_0", "7a", "a", "٧", "７", "1000000", "1234567", "0000007", "9999999", "9223372036854775807", "9223372036854775808", "18446744073709551623", "4294967303", "\x007", "7\x00", "%37", "seven", "N", "NaN"} {
			target := strings.Replace(x.target, "7", n, 1)
			refused(t, request(x.method, target, x.body, auth("ann")), 404)
			check(t, fmt.Sprintf("methods of %q", target), len(route.Methods(target)), 0)
		}
	}
}

// TestP23_1Words: one byte or more, whatever they are, but no /.
func TestP23_1Words(t *testing.T) {
	for _, word := range []string{"a", "7", "N", "WORD", "hi", "%20", "a%2Fb", "a+b", "a b", "?q=a", "ÉTÉ", "é", "\xff", "\x00", " ", "-", ".", "..", "|", `"`, `\`, strings.Repeat("w", 200), strings.Repeat("é", 3000)} {
		planned(t, request("GET", "/search/"+word, "", auth("ann")), route.Action{Kind: route.Search, User: "ann", Word: word})
	}
}

func TestP23_1Methods(t *testing.T) {
	for _, x := range []struct{ target, want string }{
		{"/users", "[POST]"}, {"/login", "[POST]"}, {"/channels", "[POST GET]"}, {"/channels/0/join", "[POST]"}, {"/channels/7/leave", "[POST]"}, {"/channels/10/invite", "[POST]"},
		{"/channels/0/posts", "[GET POST]"}, {"/channels/999999/posts", "[GET POST]"}, {"/channels/7/read", "[POST]"}, {"/posts/7/edit", "[POST]"}, {"/posts/7/react", "[POST]"}, {"/posts/0", "[DELETE]"}, {"/search/a", "[GET]"}, {"/search/\xff", "[GET]"}, {"/events/0", "[GET]"},
	} {
		l := route.Methods(x.target)
		check(t, "methods of "+x.target, l, x.want)
		for _, method := range []string{"GET", "POST", "DELETE", "PUT", "HEAD", "OPTIONS", "", "get", "Get", "post", "delete", "GETS", "GE", "POST ", " GET", "P", "GET\x00"} {
			a := route.Plan(request(method, x.target, ""), []byte(secret), 4)
			check(t, fmt.Sprintf("%q %s is none of its methods", method, x.target), a.Code == 405, !slices.Contains(l, method))
			if !slices.Contains(l, method) {
				refused(t, request(method, x.target, "{", head("x-request", strings.Repeat("r", 17))), 405)
				refused(t, request(method, x.target, `{"name":"a"}`, auth("ann")), 405)
			}
		}
	}
}

// TestP23_1Order: of several refusals the first counts.
func TestP23_1Order(t *testing.T) {
	long := head("x-request", strings.Repeat("r", 17))
	for _, x := range table {
		refused(t, request("PATCH", x.target+"/", "{", long), 404)
		refused(t, request(x.method, x.target+"/", "{", long), 404)
		refused(t, request("PATCH", x.target, "{", long), 405)
		if !x.open {
			refused(t, request(x.method, x.target, "{", long), 401)
			refused(t, request(x.method, x.target, x.body, long), 401)
			refused(t, request(x.method, x.target, "{"), 401)
		}
		refused(t, request(x.method, x.target, "{", long, auth("ann")), 400)
		refused(t, request(x.method, x.target, "{", auth("ann")), 400)
		if x.want.Kind == route.Command {
			refused(t, request(x.method, x.target, x.body, long, auth("ann")), 400)
		} else {
			planned(t, request(x.method, x.target, x.body, long, auth("ann")), x.want)
		}
	}
}

// TestP23_1Tokens: the first field must be Bearer, a blank, and a token with this key, ahead of its tick.
func TestP23_1Tokens(t *testing.T) {
	good := token(secret, "ann", until)
	for _, x := range table {
		if x.open {
			continue
		}
		for _, value := range []string{
			"", "Bearer", "Bearer ", "bearer " + good, "BEARER " + good, "Bearer" + good, "Bearer  " + good, "Bearer\t" + good, " Bearer " + good, "Bearer " + good + " ", "Bearer " + good + ".", good, "Basic " + good, "Token " + good, "Bearer Bearer " + good,
			"Bearer ann", "Bearer ann.9", "Bearer ann.9.", "Bearer " + token("l", "ann", until), "Bearer " + token("", "ann", until), "Bearer " + token(secret, "ann", 4), "Bearer " + token(secret, "ann", 3), "Bearer " + token(secret, "ann", 0), "Bearer bob" + good[3:], "Bearer " + strings.ToUpper(good), "Bearer " + good[:len(good)-1], "Bearer \xff",
		} {
			refused(t, request(x.method, x.target, x.body, head("authorization", value)), 401)
			refused(t, request(x.method, x.target, x.body, head("authorization", value), auth("ann")), 401)
		}
		for _, name := range []string{"Authorization", "AUTHORIZATION", "authorizations", "authorisation", "proxy-authorization", "", "token", "bearer"} {
			refused(t, request(x.method, x.target, x.body, head(name, "Bearer "+good)), 401)
		}
		planned(t, request(x.method, x.target, x.body, head("Authorization", ""), auth("ann"), head("authorization", "")), x.want)
		planned(t, request(x.method, x.target, x.body, auth("ann"), auth("bob")), x.want)
	}
}

// TestP23_1Ticks: a token counts ahead of its tick, with the key it was made with, for whoever has it.
func TestP23_1Ticks(t *testing.T) {
	for _, key := range []string{"", "k", "key", "\x00\xff", strings.Repeat("k", 100)} {
		for _, user := range []string{"a", "ann", "z_23456789012345"} {
			for _, tick := range []int{1, 5, 1000, math.MaxInt} {
				r := request("GET", "/channels", "", head("authorization", "Bearer "+token(key, user, tick)))
				for _, now := range []int{math.MinInt, -1, 0, tick - 1} {
					check(t, fmt.Sprintf("%.9q, %s until %d at %d", key, user, tick, now), route.Plan(r, []byte(key), now), route.Action{Kind: route.Channels, User: user})
				}
				for _, now := range []int{tick, max(tick, tick+1), math.MaxInt} {
					check(t, fmt.Sprintf("%.9q, %s until %d at %d", key, user, tick, now), route.Plan(r, []byte(key), now), route.Action{Code: 401})
				}
				check(t, "another key", route.Plan(r, []byte(key+"x"), 0), route.Action{Code: 401})
			}
		}
	}
	check(t, "no key", route.Plan(request("GET", "/channels", "", head("authorization", "Bearer "+token("", "ann", 5))), nil, 0), route.Action{Kind: route.Channels, User: "ann"})
}

// TestP23_1Empty: rows whose body is empty.
func TestP23_1Empty(t *testing.T) {
	for _, x := range table {
		if x.body != "" {
			refused(t, request(x.method, x.target, "", auth("ann")), 400)
			continue
		}
		for _, body := range []string{" ", "\r\n", "\x00", "{}", "[]", "null", `""`, "0", "x", `{"name":"ann"}`, "\xff"} {
			refused(t, request(x.method, x.target, body, auth("ann")), 400)
		}
	}
}

// TestP23_1Texts: a body that is no text of an object.
func TestP23_1Texts(t *testing.T) {
	for _, x := range table {
		if x.body == "" {
			continue
		}
		for _, body := range []string{
			" ", "x", "null", "true", "0", `"name"`, "[]", "{}", "{", "}", `{"name"}`, `{"name":}`, `{"":""}`, "[" + x.body + "]", x.body + x.body, x.body + "x", x.body + ",", "x" + x.body, x.body[:len(x.body)-1], x.body[1:], x.body + "\x00", "\ufeff" + x.body,
			x.body[:len(x.body)-1] + ",}", x.body[:len(x.body)-1] + `,"x":null}`, x.body[:len(x.body)-1] + `,"x":"y"}`, x.body[:len(x.body)-1] + `,"":0}`, x.body[:len(x.body)-1] + `,` + x.body[1:], strings.ReplaceAll(x.body, `"`, "'"), strings.ReplaceAll(x.body, `"`, ""), strings.ToUpper(x.body), strings.Replace(x.body, `":`, ` ":`, 1), strings.Replace(x.body, `{"`, `{" `, 1), strings.ReplaceAll(x.body, ":", "="),
			x.body + strings.Repeat(" ", 4097-len(x.body)),
		} {
			refused(t, request(x.method, x.target, body, auth("ann")), 400)
		}
		for _, body := range []string{" " + x.body + "\r\n\t ", strings.ReplaceAll(x.body, ":", " :\n "), strings.ReplaceAll(x.body, ",", " ,\t"), strings.ReplaceAll(x.body, "{", "{ "), strings.ReplaceAll(x.body, "}", "\n}"), strings.ReplaceAll(x.body, `e"`, `\u0065"`), x.body + strings.Repeat(" ", 4096-len(x.body))} {
			planned(t, request(x.method, x.target, body, auth("ann")), x.want)
		}
	}
}

// values are some of each kind, by the letter of the form's kind; the others are of none.
var values = map[string][]string{
	"s": {`""`, `"a"`, `"ann"`, `"7"`, `"true"`, `"null"`, `"é|\n"`, `"\u0000"`, `"\ud83d\ude00"`, `"` + strings.Repeat("x", 4000) + `"`},
	"n": {"0", "1", "-1", "7", "1000000", "9007199254740992", "-9007199254740992"},
	"b": {"true", "false"},
	"":  {"null", "[]", "{}", `[""]`, `["a"]`, "[0]", "[true]", `{"name":"a"}`, "01", "-0", "1.0", "1e0", "9007199254740993", "-9007199254740993", "True", "FALSE", "nil", "", "a", `"a`, `"\ud800"`, "\"\xff\"", "'a'", "undefined", "NaN"},
}

// value is what a text of values says.
func value(s string) string {
	switch s {
	case `"é|\n"`:
		return "é|\n"
	case `"\u0000"`:
		return "\x00"
	case `"\ud83d\ude00"`:
		return "😀"
	}
	return strings.Trim(s, `"`)
}

// forms are the bodies of rows, each with what stands ahead of and behind a field's value.
var forms = []struct {
	target, key, kind, ahead, behind string
	have                             bool // the field must be there
}{
	{"/users", "name", "s", "", "", true},
	{"/login", "name", "s", "", "", true},
	{"/channels", "name", "s", "", "", true},
	{"/channels", "name", "s", "", `,"closed":true`, true},
	{"/channels", "name", "s", `"closed":false,`, "", true},
	{"/channels", "closed", "b", "", `,"name":"a"`, false},
	{"/channels", "closed", "b", `"name":"a",`, "", false},
	{"/channels/7/invite", "user", "s", "", "", true},
	{"/channels/7/posts", "text", "s", "", "", true},
	{"/channels/7/posts", "text", "s", `"parent":3,`, "", true},
	{"/channels/7/posts", "text", "s", "", `,"parent":3`, true},
	{"/channels/7/posts", "parent", "n", "", `,"text":"a"`, false},
	{"/channels/7/posts", "parent", "n", `"text":"a",`, "", false},
	{"/channels/7/read", "post", "n", "", "", true},
	{"/posts/7/edit", "text", "s", "", "", true},
	{"/posts/7/react", "name", "s", "", "", true},
}

// TestP23_1Fields: each field with values of all kinds, alone and beside others.
func TestP23_1Fields(t *testing.T) {
	for _, x := range forms {
		for kind, l := range values {
			for _, v := range l {
				r := request("POST", x.target, "{"+x.ahead+`"`+x.key+`":`+v+x.behind+"}", auth("ann"))
				if kind != x.kind {
					refused(t, r, 400)
					continue
				}
				a := route.Plan(r, []byte(secret), 4)
				var got string
				switch {
				case x.target == "/login":
					got = a.User
				case kind == "s":
					got = a.Cmd.A
				case kind == "n":
					got = fmt.Sprint(a.Cmd.M)
				default:
					got = fmt.Sprint(a.Cmd.N == 1)
				}
				check(t, fmt.Sprintf("%s, %.50s", x.target, r.Body), []any{a.Code, got}, []any{0, value(v)})
			}
		}
		r := request("POST", x.target, "{"+strings.Trim(x.ahead+x.behind, ",")+"}", auth("ann"))
		check(t, x.target+" without "+x.key, route.Plan(r, []byte(secret), 4).Code, map[bool]int{true: 400}[x.have])
	}
}

// TestP23_1Both: two fields in any order; what isn't named stays as it is said.
func TestP23_1Both(t *testing.T) {
	for body, want := range map[string]api.Cmd{
		`{"closed":true,"name":"a"}`: {Kind: 2, A: "a", N: 1, M: -1}, `{"name":"a","closed":true}`: {Kind: 2, A: "a", N: 1, M: -1}, `{"closed":false,"name":"a"}`: {Kind: 2, A: "a", M: -1},
		`{"parent":0,"text":"a"}`: {Kind: 6, A: "a", N: 7}, `{"text":"a","parent":0}`: {Kind: 6, A: "a", N: 7}, `{"text":"a","parent":-1}`: {Kind: 6, A: "a", N: 7, M: -1}, `{"text":"a","parent":-2}`: {Kind: 6, A: "a", N: 7, M: -2},
	} {
		want.User = "ann"
		target := "/channels"
		if want.Kind == 6 {
			target = "/channels/7/posts"
		}
		planned(t, request("POST", target, body, auth("ann")), asked(want))
	}
	for _, body := range []string{`{"closed":true}`, `{"closed":true,"closed":true,"name":"a"}`, `{"name":"a","name":"a"}`, `{"name":"a","closed":true,"parent":1}`, `{"text":"a"}`} {
		refused(t, request("POST", "/channels", body, auth("ann")), 400)
	}
	for _, body := range []string{`{"parent":1}`, `{"parent":1,"parent":1,"text":"a"}`, `{"text":"a","text":"a"}`, `{"text":"a","parent":1,"closed":true}`, `{"name":"a"}`, `{"text":"a","post":1}`} {
		refused(t, request("POST", "/channels/7/posts", body, auth("ann")), 400)
	}
}

// TestP23_1Requests: a request's own name has at most 16 bytes, where it counts.
func TestP23_1Requests(t *testing.T) {
	for _, x := range table {
		for _, req := range []string{"", "r", "r1", " ", "|", "a|b", "é", "\xff", strings.Repeat("r", 15), strings.Repeat("r", 16), strings.Repeat("é", 8), strings.Repeat("r", 17), strings.Repeat("é", 8) + "r", strings.Repeat("r", 1000)} {
			want := x.want
			if want.Kind == route.Command {
				want.Cmd.Req = req
				if len(req) > 16 {
					want = route.Action{Code: 400}
				}
			}
			planned(t, request(x.method, x.target, x.body, auth("ann"), head("x-request", req)), want)
			planned(t, request(x.method, x.target, x.body, head("X-Request", "no"), head("x-request", req), auth("ann"), head("x-request", "another")), want)
		}
	}
}

// said holds an answer that has nothing but a code and a body.
func said(t *testing.T, what string, a http.Answer, code int, body string) {
	t.Helper()
	check(t, what, fmt.Sprintf("%+v %d %v", a, len(a.Heads), a.Close), fmt.Sprintf("%+v 0 false", http.Answer{Code: code, Body: body}))
}

func TestP23_2Examples(t *testing.T) {
	said(t, "example", route.Answer(api.Reply{Code: 200, Body: "7"}), 200, `{"ok":"7"}`)
	said(t, "example", route.Answer(api.Reply{Code: 409}), 409, `{"error":409}`)
}

func TestP23_2Error(t *testing.T) {
	for _, code := range []int{0, 1, -1, 7, 200, 307, 400, 401, 403, 404, 405, 409, 413, 431, 503, 507, 999, -400, 1 << 40, 1<<53 - 1, 1 << 53, -1 << 53, -1<<53 + 1} {
		said(t, fmt.Sprint("code ", code), route.Error(code), code, fmt.Sprintf(`{"error":%d}`, code))
	}
	for _, code := range []int{1<<53 + 1, -1<<53 - 1, 1 << 60, math.MaxInt, math.MinInt} {
		said(t, fmt.Sprint("code ", code), route.Error(code), code, "")
	}
}

func TestP23_2Answer(t *testing.T) {
	for _, x := range []struct{ body, want string }{
		{"", `""`}, {"0", `"0"`}, {"12", `"12"`}, {"é 😀", `"é 😀"`}, {"a\"b\\c/", `"a\"b\\c/"`}, {"\x00\n\r\t\x1f\x7f", `"\u0000\u000a\u000d\u0009\u001f` + "\x7f\""}, {"<&>", `"<&>"`},
		{strings.Repeat("x", 4096-9), `"` + strings.Repeat("x", 4096-9) + `"`}, {strings.Repeat("\n", 681), `"` + strings.Repeat(`\u000a`, 681) + `"`},
	} {
		said(t, fmt.Sprintf("%.50q", x.body), route.Answer(api.Reply{Code: 200, Body: x.body}), 200, `{"ok":`+x.want+`}`)
	}
	for _, body := range []string{"\xff", "a\xc3", "\xed\xa0\x80", strings.Repeat("x", 4096-8), strings.Repeat("\n", 682), strings.Repeat("x", 100000)} {
		said(t, fmt.Sprintf("a body that has no text: %.50q", body), route.Answer(api.Reply{Code: 200, Body: body}), 200, "")
	}
	for _, code := range []int{400, 403, 404, 409, 507, 503, 0, 1, 199, 201, -200, math.MaxInt, math.MinInt} {
		for _, body := range []string{"", "7", "\xff"} {
			a := route.Error(code)
			said(t, fmt.Sprint("code ", code), route.Answer(api.Reply{Code: code, Body: body}), a.Code, a.Body)
		}
	}
}

// made is the workspace behind some commands, all of which must be done.
func made(t *testing.T, l ...api.Cmd) api.Space {
	t.Helper()
	var s api.Space
	for i, c := range l {
		after, r, _ := space.Apply(s, c)
		if r.Code != 200 {
			t.Fatalf("command %d, %+v: %+v", i, c, r)
		}
		s = after
	}
	return s
}

func addUser(name string) api.Cmd { return api.Cmd{Kind: space.AddUser, A: name} }
func addChan(user, name string, closed int) api.Cmd {
	return api.Cmd{Kind: space.AddChan, User: user, A: name, N: closed}
}
func join(user string, c int) api.Cmd  { return api.Cmd{Kind: space.Join, User: user, N: c} }
func leave(user string, c int) api.Cmd { return api.Cmd{Kind: space.Leave, User: user, N: c} }
func invite(user string, c int, who string) api.Cmd {
	return api.Cmd{Kind: space.Invite, User: user, N: c, A: who}
}
func post(user string, c int, text string) api.Cmd {
	return api.Cmd{Kind: space.Post, User: user, N: c, A: text, M: -1}
}
func reply(user string, c, parent int, text string) api.Cmd {
	return api.Cmd{Kind: space.Post, User: user, N: c, A: text, M: parent}
}
func edit(user string, p int, text string) api.Cmd {
	return api.Cmd{Kind: space.Edit, User: user, N: p, A: text}
}
func remove(user string, p int) api.Cmd { return api.Cmd{Kind: space.Delete, User: user, N: p} }

// town has ann and bob in channel 0, bob in channel 1, which is closed, nobody in channel 2; cy is nowhere.
func town(t *testing.T, more ...api.Cmd) api.Space {
	t.Helper()
	return made(t, append([]api.Cmd{
		addUser("ann"), addUser("bob"), addUser("cy"), addChan("ann", "general", 0), join("bob", 0), addChan("bob", "secret", 1), addChan("ann", "empty", 0), leave("ann", 2),
	}, more...)...)
}

// viewed holds a view at tick 0.
func viewed(t *testing.T, s api.Space, a route.Action, code int, body string) {
	t.Helper()
	said(t, fmt.Sprintf("%.200s", fmt.Sprintf("%+v", a)), route.View(s, a, []byte(secret), 0), code, body)
}

// denied holds a view that isn't to be had.
func denied(t *testing.T, s api.Space, a route.Action, code int) {
	t.Helper()
	viewed(t, s, a, code, fmt.Sprintf(`{"error":%d}`, code))
}

// strangers are names of nobody in a town.
var strangers = []string{"", "eve", "Ann", "an", "anna", "ann ", "\xff", "general"}

func TestP23_2Refuse(t *testing.T) {
	s := town(t)
	for _, code := range []int{400, 401, 403, 404, 405, 0, 200, -1} {
		for _, user := range []string{"", "ann", "eve"} {
			denied(t, s, route.Action{Kind: route.Refuse, Code: code, User: user}, code)
			denied(t, api.Space{}, route.Action{Kind: route.Refuse, Code: code, User: user, N: 99}, code)
		}
	}
	viewed(t, s, route.Action{Code: math.MaxInt}, math.MaxInt, "")
}

func TestP23_2Login(t *testing.T) {
	s := town(t)
	for _, key := range []string{"", "k", strings.Repeat("k", 100)} {
		for _, user := range []string{"ann", "bob", "cy"} {
			for _, now := range []int{0, 1, 7, 123456, 1<<40 - 1, 1 << 40} {
				a := route.View(s, route.Action{Kind: route.Login, User: user}, []byte(key), now)
				want := token(key, user, now+1000)
				said(t, fmt.Sprint(user, " at ", now), a, 200, `{"token":"`+want+`"}`)
				who, e := session.Verify([]byte(key), want, now+999)
				check(t, "whose it is", []any{who, e}, []any{user, api.OK})
			}
			for _, now := range []int{-1, -1000, math.MinInt, 1<<40 + 1, math.MaxInt, math.MaxInt - 1000} {
				said(t, fmt.Sprint(user, " at ", now), route.View(s, route.Action{Kind: route.Login, User: user}, []byte(key), now), 404, `{"error":404}`)
			}
		}
	}
	for _, user := range strangers {
		for _, now := range []int{0, 7, -1, 1<<40 + 1} {
			said(t, user, route.View(s, route.Action{Kind: route.Login, User: user}, []byte(secret), now), 404, `{"error":404}`)
		}
	}
	denied(t, api.Space{}, route.Action{Kind: route.Login, User: "ann"}, 404)
}

// TestP23_2Strangers: who is no user sees nothing, whatever is asked for.
func TestP23_2Strangers(t *testing.T) {
	s := town(t, post("ann", 0, "hi"))
	for _, user := range strangers {
		for _, kind := range []int{route.Command, route.Channels, route.Posts, route.Search, route.Events, 7, -1} {
			denied(t, s, route.Action{Kind: kind, User: user, Word: "hi"}, 403)
			denied(t, s, route.Action{Kind: kind, User: user, N: 99, Word: "\xff"}, 403)
			denied(t, api.Space{}, route.Action{Kind: kind, User: "ann", N: -1}, 403)
		}
	}
}

// TestP23_2Kinds: what isn't a view's.
func TestP23_2Kinds(t *testing.T) {
	s := town(t, post("ann", 0, "hi"))
	for _, kind := range []int{route.Command, route.Events, 7, 8, -1, -2, 100, math.MaxInt, math.MinInt} {
		denied(t, s, route.Action{Kind: kind, User: "ann", Word: "hi", Code: 404, Cmd: api.Cmd{Kind: 1, A: "eve"}}, 400)
		denied(t, s, route.Action{Kind: kind, User: "cy", N: 1}, 400)
	}
}

// TestP23_2Strange: workspaces that no commands make: whatever is answered, nothing panics.
func TestP23_2Strange(t *testing.T) {
	s := api.Space{Users: []string{"ann", "\xff", ""}, Chans: []api.Chan{{Name: "\xff", Members: []int{0, 0, -1, 99}}, {Members: []int{2, 1, 0}}}, Posts: []api.Post{{User: 99, Text: "hi"}, {User: -1, Text: "hi", Parent: math.MinInt}, {Chan: 1, User: 3, Text: "\xff"}, {Chan: -1, Text: "hi"}, {Chan: 99, User: 1, Text: "hi"}, {Gone: true, User: 7}}}
	for kind := -1; kind < 9; kind++ {
		for _, user := range []string{"ann", "\xff", ""} {
			for n := -1; n < 3; n++ {
				route.View(s, route.Action{Kind: kind, User: user, N: n, Word: "hi"}, nil, 0)
			}
		}
	}
	viewed(t, s, route.Action{Kind: route.Channels, User: "ann"}, 200, "")
}

func TestP23_2Channels(t *testing.T) {
	s := town(t, addChan("bob", "a_third", 0), addChan("cy", "fourth", 1), invite("cy", 4, "ann"))
	for user, want := range map[string]string{"ann": `"general","fourth"`, "bob": `"general","secret","a_third"`, "cy": `"fourth"`} {
		viewed(t, s, route.Action{Kind: route.Channels, User: user}, 200, `{"channels":[`+want+`]}`)
		viewed(t, s, route.Action{Kind: route.Channels, User: user, N: 99, Word: "\xff", Code: 400}, 200, `{"channels":[`+want+`]}`)
	}
	viewed(t, town(t), route.Action{Kind: route.Channels, User: "cy"}, 200, `{"channels":[]}`)
	viewed(t, town(t, leave("ann", 0)), route.Action{Kind: route.Channels, User: "ann"}, 200, `{"channels":[]}`)
	l := []api.Cmd{addUser("ann")}
	want := ""
	for i := range 40 {
		l = append(l, addChan("ann", fmt.Sprint("channel_", 1000000+i), 0))
		want += fmt.Sprintf(`,"channel_%d"`, 1000000+i)
	}
	viewed(t, made(t, l...), route.Action{Kind: route.Channels, User: "ann"}, 200, `{"channels":[`+want[1:]+`]}`)
}

func posts(user string, c int) route.Action {
	return route.Action{Kind: route.Posts, User: user, N: c}
}

func TestP23_2Posts(t *testing.T) {
	s := town(t, post("ann", 0, "first"), post("bob", 1, "psst"), reply("bob", 0, 0, "an answer"), post("ann", 0, "gone"), remove("ann", 3), edit("ann", 0, "edited"), post("bob", 0, "say \"é\"\\\n\x01"), reply("ann", 0, 0, "another"), remove("bob", 2))
	viewed(t, s, posts("ann", 0), 200, `{"posts":[[0,"ann","edited",-1],[4,"bob","say \"é\"\\\u000a\u0001",-1],[5,"ann","another",0]]}`)
	viewed(t, s, posts("bob", 0), 200, `{"posts":[[0,"ann","edited",-1],[4,"bob","say \"é\"\\\u000a\u0001",-1],[5,"ann","another",0]]}`)
	viewed(t, s, posts("bob", 1), 200, `{"posts":[[1,"bob","psst",-1]]}`)
	for _, n := range []int{-1, 3, 4, 999999, math.MaxInt, math.MinInt} {
		denied(t, s, posts("ann", n), 404)
	}
	denied(t, s, posts("ann", 1), 403)
	denied(t, s, posts("ann", 2), 403)
	denied(t, s, posts("cy", 0), 403)
	denied(t, town(t, post("ann", 0, "hi"), leave("ann", 0)), posts("ann", 0), 403)
	viewed(t, town(t), posts("ann", 0), 200, `{"posts":[]}`)
	viewed(t, town(t, post("ann", 0, "hi"), remove("ann", 0)), posts("bob", 0), 200, `{"posts":[]}`)
}

// TestP23_2Last: the last twenty of those that aren't gone.
func TestP23_2Last(t *testing.T) {
	for _, many := range []int{1, 19, 20, 21, 22, 40, 100} {
		for _, gone := range []int{0, 1, 5} {
			l := []api.Cmd{addUser("ann"), addChan("ann", "a", 0), addChan("ann", "b", 0)}
			var want []string
			for i := range many + gone {
				l = append(l, post("ann", 0, fmt.Sprint("text ", i)), post("ann", 1, "elsewhere"))
				if i >= many-3 && i < many-3+gone {
					l = append(l, remove("ann", 2*i))
				} else {
					want = append(want, fmt.Sprintf(`[%d,"ann","text %d",-1]`, 2*i, i))
				}
			}
			want = want[max(0, len(want)-20):]
			viewed(t, made(t, l...), posts("ann", 0), 200, `{"posts":[`+strings.Join(want, ",")+`]}`)
		}
	}
}

// TestP23_2Great: the longest texts still make a view.
func TestP23_2Great(t *testing.T) {
	user := "a234567890123456"
	l := []api.Cmd{addUser(user), addChan(user, "a", 0)}
	want := ""
	for i := range 300 {
		l = append(l, post(user, 0, strings.Repeat("\n", 24)))
		if i >= 280 {
			want += fmt.Sprintf(`,[%d,"%s","%s",-1]`, i, user, strings.Repeat(`\u000a`, 24))
		}
	}
	viewed(t, made(t, l...), posts(user, 0), 200, `{"posts":[`+want[1:]+`]}`)
}

func search(user, word string) route.Action {
	return route.Action{Kind: route.Search, User: user, Word: word}
}

func TestP23_2Search(t *testing.T) {
	s := town(t, post("ann", 0, "ÉTÉ hi"), post("bob", 0, "hi"), post("bob", 1, "hi été"), post("ann", 0, "hi hi été"), post("ann", 0, "hi"), remove("ann", 4), post("ann", 0, "été"), edit("ann", 5, "winter"))
	for word, want := range map[string]string{
		"hi": "1,3,0", "HI": "1,3,0", "hi,": "1,3,0", "été": "0,3", "Été-hi": "0,3", "été hi hi": "0,3", "winter": "5", "WINTER": "5", "psst": "", "h": "", "hix": "", "hi winter": "", "": "", "...": "", "%20": "", "hi+été": "0,3",
	} {
		viewed(t, s, search("ann", word), 200, `{"found":[`+want+`]}`)
	}
	viewed(t, s, search("bob", "hi"), 200, `{"found":[1,3,0,2]}`)
	viewed(t, s, search("cy", "hi"), 200, `{"found":[]}`)
	for _, word := range []string{"\xff", "hi\xff", "\xc3", "hi\xed\xa0\x80"} {
		denied(t, s, search("ann", word), 400)
		denied(t, s, search("cy", word), 400)
	}
	viewed(t, town(t, post("ann", 0, "hi"), leave("ann", 0)), search("ann", "hi"), 200, `{"found":[]}`)
}

// TestP23_2Weights: posts that can't be seen don't weigh: whether a is rarer than b hangs on those that can.
func TestP23_2Weights(t *testing.T) {
	l := []api.Cmd{post("ann", 0, "a a b"), post("ann", 0, "a b b"), post("ann", 0, "b")}
	s := town(t, l...)
	viewed(t, s, search("ann", "a b"), 200, `{"found":[0,1]}`)
	s = town(t, append(l, post("ann", 0, "a"), post("ann", 0, "a"))...)
	viewed(t, s, search("ann", "a b"), 200, `{"found":[1,0]}`)
	s = town(t, append(l, post("bob", 1, "a"), post("bob", 1, "a"))...)
	viewed(t, s, search("ann", "a b"), 200, `{"found":[0,1]}`)
	viewed(t, s, search("bob", "a b"), 200, `{"found":[1,0]}`)
	s = town(t, append(l, post("bob", 0, "a"), post("bob", 0, "a"), remove("bob", 3), remove("bob", 4))...)
	viewed(t, s, search("ann", "a b"), 200, `{"found":[0,1]}`)
}

// TestP23_2Twenty: the best twenty; of those that are level the first ones.
func TestP23_2Twenty(t *testing.T) {
	for _, many := range []int{1, 19, 20, 21, 25, 100} {
		l := []api.Cmd{addUser("ann"), addChan("ann", "a", 0)}
		for range many {
			l = append(l, post("ann", 0, "hi all"))
		}
		l = append(l, post("ann", 0, "hi"))
		want := fmt.Sprint(many)
		for i := range min(many, 19) {
			want += fmt.Sprint(",", i)
		}
		viewed(t, made(t, l...), search("ann", "hi"), 200, `{"found":[`+want+`]}`)
	}
}

// packed holds a command and its text.
func packed(t *testing.T, c api.Cmd, want string) {
	t.Helper()
	s, e := route.Pack(c)
	check(t, fmt.Sprintf("Pack of %+v", c), fmt.Sprintf("%q, %d", s, e), fmt.Sprintf("%q, %d", want, api.OK))
	back, e := route.Unpack(want)
	check(t, fmt.Sprintf("Unpack of %q", want), fmt.Sprintf("%+v, %d", back, e), fmt.Sprintf("%+v, %d", c, api.OK))
}

func TestP23_3Examples(t *testing.T) {
	packed(t, api.Cmd{Kind: 6, User: "ann", A: "hi", M: -1}, "6|0|-1||ann|hi")
}

func TestP23_3Packed(t *testing.T) {
	packed(t, api.Cmd{}, "0|0|0|||")
	packed(t, api.Cmd{Kind: 1, N: 2, M: 3, Req: "r", User: "u", A: "a"}, "1|2|3|r|u|a")
	packed(t, api.Cmd{Kind: -1, N: -20, M: -300}, "-1|-20|-300|||")
	packed(t, api.Cmd{Kind: 10, N: 999999, M: -1 << 53, Req: "r234567890123456", User: "u234567890123456", A: "x"}, "10|999999|-9007199254740992|r234567890123456|u234567890123456|x")
	packed(t, api.Cmd{Kind: math.MaxInt, N: math.MinInt, M: math.MaxInt}, "9223372036854775807|-9223372036854775808|9223372036854775807|||")
	for _, a := range []string{"|", "||||||||", "a|b", "|6|0|-1||ann|hi", " ", "\n", "\x00\xff", "é", "0"} {
		packed(t, api.Cmd{Kind: 6, User: "ann", A: a}, "6|0|0||ann|"+a)
	}
	packed(t, api.Cmd{Req: " ", User: "\xff\x00 é,;"}, "0|0|0| |\xff\x00 é,;|")
	packed(t, api.Cmd{Req: strings.Repeat("r", 30), User: strings.Repeat("u", 40)}, "0|0|0|"+strings.Repeat("r", 30)+"|"+strings.Repeat("u", 40)+"|")
}

// TestP23_3Wrong: what has no text: the length is asked first.
func TestP23_3Wrong(t *testing.T) {
	fails := func(c api.Cmd, want api.Errno) {
		t.Helper()
		s, e := route.Pack(c)
		check(t, fmt.Sprintf("%.300s", fmt.Sprintf("Pack of %+v", c)), fmt.Sprintf("%q, %d", s, e), fmt.Sprintf("%q, %d", "", want))
	}
	for _, c := range []api.Cmd{{Req: "|"}, {User: "|"}, {Req: "a|b"}, {User: "a|b"}, {Req: "r|", User: "ann"}, {User: "|ann", A: "a"}, {B: "b"}, {B: "|"}, {Kind: 6, User: "ann", A: "hi", B: " "}, {Req: "|", B: "b"}, {Req: strings.Repeat("|", 70), User: "ab"}} {
		fails(c, api.ErrForm)
	}
	for _, free := range []func(n int) api.Cmd{
		func(n int) api.Cmd { return api.Cmd{A: strings.Repeat("a", n-8)} },
		func(n int) api.Cmd { return api.Cmd{A: strings.Repeat("|", n-8)} },
		func(n int) api.Cmd { return api.Cmd{User: strings.Repeat("u", n-8)} },
		func(n int) api.Cmd { return api.Cmd{Req: strings.Repeat("r", n-8)} },
		func(n int) api.Cmd {
			return api.Cmd{Kind: 10, N: 100000, M: -10, User: "ann", A: strings.Repeat("\xff", n-19)}
		},
	} {
		for _, n := range []int{79, 80} {
			s, e := route.Pack(free(n))
			check(t, fmt.Sprint("of ", n, " bytes"), []any{len(s), e}, []any{n, api.OK})
		}
		for _, n := range []int{81, 82, 100, 1000} {
			fails(free(n), api.ErrBig)
		}
		c := free(80)
		c.B = "b" // it isn't told, and doesn't count
		fails(c, api.ErrForm)
		c = free(81)
		c.B = "b"
		fails(c, api.ErrBig)
	}
	fails(api.Cmd{Req: strings.Repeat("|", 73)}, api.ErrBig)
	fails(api.Cmd{User: strings.Repeat("|", 100), B: "b"}, api.ErrBig)
}

// TestP23_3Texts: texts that are no commands.
func TestP23_3Texts(t *testing.T) {
	for _, s := range []string{"", "|", "||||", "look", "6", "6|0|-1", "6|0|-1||ann", "6|0|-1|ann", "|||||", "||||||", "6|0|||ann|hi", "6||0||ann|hi", "|6|0||ann|hi", "6,0,-1,,ann,hi"} {
		c, e := route.Unpack(s)
		check(t, fmt.Sprintf("Unpack of %q", s), fmt.Sprintf("%+v, %d", c, e), fmt.Sprintf("%+v, %d", api.Cmd{}, api.ErrText))
	}
	for _, n := range []string{"", "+1", "+0", "-0", "00", "01", "-01", "007", " 1", "1 ", "1.", "1.0", "1e1", "0x1", "1_0", "a", "-", "--1", "٣", "９", "\x001", "1\x00", "9223372036854775808", "-9223372036854775809", "18446744073709551616", "99999999999999999999999"} {
		for _, s := range []string{n + "|0|-1||ann|hi", "6|" + n + "|-1||ann|hi", "6|0|" + n + "||ann|hi", n + "|" + n + "|" + n + "|||"} {
			c, e := route.Unpack(s)
			check(t, fmt.Sprintf("Unpack of %q", s), fmt.Sprintf("%+v, %d", c, e), fmt.Sprintf("%+v, %d", api.Cmd{}, api.ErrText))
		}
	}
	long := strings.Repeat("x|", 5000)
	c, e := route.Unpack("6|0|-1|" + long)
	check(t, "a long text", []any{c, e}, []any{api.Cmd{Kind: 6, M: -1, Req: "x", User: "x", A: long[4:]}, api.OK})
}

// TestP23_3Planned: what Plan makes can be packed and unpacked, if it isn't too long, and if the request's name has no mark in it.
func TestP23_3Planned(t *testing.T) {
	for _, x := range table {
		for _, req := range []string{"", "r1", "a|b", strings.Repeat("r", 16)} {
			a := route.Plan(request(x.method, x.target, x.body, auth("ann"), head("x-request", req)), []byte(secret), 4)
			if a.Kind != route.Command {
				continue
			}
			s, e := route.Pack(a.Cmd)
			check(t, fmt.Sprintf("%+v", a.Cmd), e, map[bool]api.Errno{true: api.ErrForm}[strings.Contains(req, "|")])
			if e == api.OK {
				c, e := route.Unpack(s)
				check(t, s, []any{c, e}, []any{a.Cmd, api.OK})
			}
		}
	}
	a := route.Plan(request("POST", "/channels/7/posts", `{"text":"a|b|\u0000é\u007f|"}`, auth("ann")), []byte(secret), 4)
	packed(t, a.Cmd, "6|7|-1||ann|a|b|\x00é\x7f|")
}

// roomy copies a list into one with room behind it, in which something stands.
func roomy[T any](l []T, x T) []T {
	m := append(make([]T, 0, len(l)+3), l...)
	fill(m[len(m):], x)
	return m
}

func fill[T any](l []T, x T) {
	for i := range l[:cap(l)] {
		l[:cap(l)][i] = x
	}
}

// bytesOf answers a text, and the bytes in which it stands, to be written over.
func bytesOf(s string) (string, []byte) {
	b := append([]byte(s), 0)
	return unsafe.String(&b[0], len(s)), b
}

// TestP23_4Plan: the request and the key aren't changed, nor the room behind them; what is answered is no piece of them.
func TestP23_4Plan(t *testing.T) {
	for _, x := range table {
		key := roomy([]byte(secret), 'z')
		var over [][]byte
		piece := func(s string) string {
			s, b := bytesOf(s)
			over = append(over, b)
			return s
		}
		r := request(piece(x.method), piece(x.target), piece(x.body))
		r.Heads = roomy([]http.Head{head(piece("x-request"), piece("r1")), head(piece("authorization"), piece("Bearer "+token(secret, "ann", until)))}, head("spare", "spare"))
		was := fmt.Sprint(r, r.Heads[:cap(r.Heads)], key[:cap(key)])
		a := route.Plan(r, key, 4)
		check(t, "what was handed in", fmt.Sprint(r, r.Heads[:cap(r.Heads)], key[:cap(key)]), was)
		for _, b := range over {
			fill(b, 'z')
		}
		fill(r.Heads, head("z", "z"))
		want := x.want
		if want.Kind == route.Command {
			want.Cmd.Req = "r1"
		}
		check(t, "when the request is written over", fmt.Sprintf("%+v", a), fmt.Sprintf("%+v", want))
	}
}

func TestP23_4Methods(t *testing.T) {
	target, b := bytesOf("/channels/7/posts")
	first, second := route.Methods(target), route.Methods(target)
	fill(b, 'z')
	fill(first, "z")
	check(t, "methods", second, []string{"GET", "POST"})
	fill(second, "z")
	check(t, "methods again", route.Methods("/channels/7/posts"), []string{"GET", "POST"})
	check(t, "a plan behind that", route.Plan(request("POST", "/users", `{"name":"ann"}`), nil, 0).Code, 0)
}

func TestP23_4Answers(t *testing.T) {
	body, b := bytesOf("seven")
	a := route.Answer(api.Reply{Code: 200, Body: body})
	fill(b, 'z')
	said(t, "when the reply is written over", a, 200, `{"ok":"seven"}`)
	a, other := route.Error(404), route.Error(404)
	a.Heads = append(a.Heads, head("a", "b"))
	said(t, "another answer", other, 404, `{"error":404}`)
}

// spacious is a workspace with room behind its lists, and what tells all of it.
func spacious(t *testing.T) (api.Space, func() string) {
	s := town(t, post("ann", 0, "hi"), post("bob", 1, "hi"), post("bob", 0, "hi all"))
	s.Users = roomy(s.Users, "eve")
	for i := range s.Chans {
		s.Chans[i].Members = roomy(s.Chans[i].Members, 0)
	}
	s.Chans = roomy(s.Chans, api.Chan{Name: "spare", Members: []int{0}})
	s.Posts = roomy(s.Posts, api.Post{Text: "hi"})
	return s, func() string {
		text := fmt.Sprint(s, s.Users[:cap(s.Users)], s.Chans[:cap(s.Chans)], s.Posts[:cap(s.Posts)])
		for _, x := range s.Chans {
			text += fmt.Sprint(x.Members[:cap(x.Members)])
		}
		return text
	}
}

// TestP23_4View: the workspace and the key aren't changed, nor the room behind their lists.
func TestP23_4View(t *testing.T) {
	s, whole := spacious(t)
	key := roomy([]byte(secret), 'z')
	was := whole() + fmt.Sprint(key[:cap(key)])
	for kind := range 7 {
		user, b := bytesOf("ann")
		word, c := bytesOf("hi")
		a := route.Action{Kind: kind, Code: 400, User: user, Word: word}
		first := route.View(s, a, key, 0)
		check(t, fmt.Sprint("what was handed in, kind ", kind), whole()+fmt.Sprint(key[:cap(key)]), was)
		text := fmt.Sprintf("%+v", first)
		check(t, "again", route.View(s, a, key, 0), first)
		fill(b, 'z')
		fill(c, 'z')
		check(t, "when the action is written over", fmt.Sprintf("%+v", first), text)
	}
	a := route.View(s, posts("ann", 0), key, 0)
	fill(s.Posts, api.Post{Text: "z"})
	fill(s.Users, "z")
	said(t, "when the workspace is written over", a, 200, `{"posts":[[0,"ann","hi",-1],[2,"bob","hi all",-1]]}`)
}

func TestP23_4Pack(t *testing.T) {
	s, b := bytesOf("6|7|-1|r1|ann|hi|ho")
	c, _ := route.Unpack(s)
	fill(b, 'z')
	want := api.Cmd{Kind: 6, N: 7, M: -1, Req: "r1", User: "ann", A: "hi|ho"}
	check(t, "when the text is written over", c, want)
	a, b := bytesOf("hi|ho")
	want.A = a
	s, _ = route.Pack(want)
	fill(b, 'z')
	check(t, "when the command is written over", s, "6|7|-1|r1|ann|hi|ho")
}

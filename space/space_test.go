package space_test

import (
	"fmt"
	"math"
	"math/rand"
	"slices"
	"strings"
	"testing"

	"parley/api"
	"parley/space"
)

func check(t *testing.T, what string, got, want any) {
	t.Helper()
	if g, w := fmt.Sprintf("%+v", got), fmt.Sprintf("%+v", want); g != w {
		t.Errorf("%s: %.1000s, not %.1000s", what, g, w)
	}
}

// The commands, in short.
func addUser(name string) api.Cmd { return api.Cmd{Kind: space.AddUser, A: name} }
func addChan(user, name string, closed int) api.Cmd {
	return api.Cmd{Kind: space.AddChan, User: user, A: name, N: closed}
}
func join(user string, c int) api.Cmd  { return api.Cmd{Kind: space.Join, User: user, N: c} }
func leave(user string, c int) api.Cmd { return api.Cmd{Kind: space.Leave, User: user, N: c} }
func invite(user string, c int, who string) api.Cmd {
	return api.Cmd{Kind: space.Invite, User: user, N: c, A: who}
}
func post(user string, c int, text string, parent int) api.Cmd {
	return api.Cmd{Kind: space.Post, User: user, N: c, A: text, M: parent}
}
func edit(user string, p int, text string) api.Cmd {
	return api.Cmd{Kind: space.Edit, User: user, N: p, A: text}
}
func remove(user string, p int) api.Cmd { return api.Cmd{Kind: space.Delete, User: user, N: p} }
func react(user string, p int, name string) api.Cmd {
	return api.Cmd{Kind: space.React, User: user, N: p, A: name}
}
func read(user string, c, upto int) api.Cmd {
	return api.Cmd{Kind: space.Read, User: user, N: c, M: upto}
}

// with is a command of a request.
func with(req string, c api.Cmd) api.Cmd {
	c.Req = req
	return c
}

// made is the space behind commands, all of which must be done.
func made(t *testing.T, s api.Space, cmds ...api.Cmd) api.Space {
	t.Helper()
	for _, c := range cmds {
		var r api.Reply
		s, r, _ = space.Apply(s, c)
		if r.Code != 200 {
			t.Fatalf("%+v: %+v", c, r)
		}
	}
	return s
}

// town has ann and bob in general, bob alone in secret, which is closed, cy alone in other; dan is nowhere.
func town(t *testing.T) api.Space {
	t.Helper()
	return made(t, api.Space{},
		addUser("ann"), addUser("bob"), addUser("cy"), addUser("dan"),
		addChan("bob", "general", 0), addChan("bob", "secret", 1), addChan("cy", "other", 0), join("ann", 0),
		post("ann", 0, "hi @bob", -1), // 0
		post("bob", 0, "yes", 0),      // 1
		post("ann", 0, "gone", -1),    // 2
		post("bob", 1, "psst", -1),    // 3
		post("cy", 2, "alone", -1),    // 4
		remove("ann", 2),
		react("bob", 0, "ok"), read("ann", 0, 1))
}

// step is a command with what it must come to.
type step struct {
	c     api.Cmd
	code  int
	body  string
	event string // its channel, a colon, its text
}

// steps applies commands one by one, and holds each against what it must come to; what is refused must change Pos alone.
func steps(t *testing.T, s api.Space, l ...step) api.Space {
	t.Helper()
	for i, x := range l {
		next, r, events := space.Apply(s, x.c)
		check(t, fmt.Sprintf("step %d, %+v", i, x.c), r, api.Reply{Code: x.code, Body: x.body})
		told := ""
		for _, e := range events {
			told += fmt.Sprintf("%d:%s", e.Chan, e.Text)
			check(t, fmt.Sprintf("step %d: the event's place", i), e.Pos, s.Pos+1)
		}
		check(t, fmt.Sprintf("step %d, %+v: events", i, x.c), fmt.Sprintf("%d %q", len(events), told), fmt.Sprintf("%d %q", min(len(x.event), 1), x.event))
		check(t, fmt.Sprintf("step %d: Pos", i), next.Pos, s.Pos+1)
		if x.code != 200 {
			want := space.Clone(s)
			want.Pos++
			check(t, fmt.Sprintf("step %d, %+v: the space", i, x.c), next, want)
		}
		s = next
	}
	return s
}

// refused applies each command to s alone: it must be refused with the code, and change Pos alone.
func refused(t *testing.T, s api.Space, code int, l ...api.Cmd) {
	t.Helper()
	for _, c := range l {
		steps(t, s, step{c: c, code: code})
	}
}

func TestP17_1Constants(t *testing.T) {
	check(t, "kinds", []int{space.AddUser, space.AddChan, space.Join, space.Leave, space.Invite, space.Post, space.Edit, space.Delete, space.React, space.Read}, []int{1, 2, 3, 4, 5, 6, 7, 8, 9, 10})
	check(t, "limits", []int{space.MaxUsers, space.MaxChans, space.MaxPosts, space.MaxMarks, space.MaxDone, space.MaxReq}, []int{40, 40, 300, 300, 400, 16})
}

func TestP17_1Examples(t *testing.T) {
	s := steps(t, api.Space{},
		step{addUser("ann"), 200, "0", ""},
		step{addUser("ann"), 409, "", ""},
		step{addChan("ann", "general", 0), 200, "0", ""},
		step{post("ann", 0, "hi", -1), 200, "0", "0:post 0 ann hi"},
		step{post("bob", 0, "hi", -1), 403, "", ""},
		step{react("ann", 0, "ok"), 200, "1", "0:react 0 ann ok"},
		step{react("ann", 0, "ok"), 200, "0", "0:unreact 0 ann ok"})
	check(t, "the space", s, api.Space{Users: []string{"ann"}, Chans: []api.Chan{{Name: "general", Members: []int{0}}}, Posts: []api.Post{{Parent: -1, Text: "hi"}}, Pos: 7})
	s = made(t, api.Space{}, addUser("ann"), addChan("ann", "general", 0))
	_, _, l := space.Apply(s, post("ann", 0, "hi", -1))
	check(t, "the third command's event", l, []api.Event{{Pos: 3, Chan: 0, Text: "post 0 ann hi"}})
}

// TestP17_1Town: what all commands that are done come to.
func TestP17_1Town(t *testing.T) {
	check(t, "the town", town(t), api.Space{
		Users: []string{"ann", "bob", "cy", "dan"},
		Chans: []api.Chan{{Name: "general", Members: []int{0, 1}}, {Name: "secret", Closed: true, Members: []int{1}}, {Name: "other", Members: []int{2}}},
		Posts: []api.Post{{Parent: -1, Text: "hi @bob"}, {User: 1, Text: "yes"}, {Parent: -1, Gone: true}, {Chan: 1, User: 1, Parent: -1, Text: "psst"}, {Chan: 2, User: 2, Parent: -1, Text: "alone"}},
		Marks: []api.Mark{{Post: 0, User: 1, Name: "ok"}},
		Seens: []api.Seen{{User: 0, Chan: 0, Upto: 1}},
		Pos:   16,
	})
}

func TestP17_1AddUser(t *testing.T) {
	s := steps(t, api.Space{},
		step{addUser("ann"), 200, "0", ""},
		step{addUser("a"), 200, "1", ""},
		step{addUser("a_23456789012345"), 200, "2", ""},
		step{addUser("ann"), 409, "", ""},
		step{addUser("ann_"), 200, "3", ""},
		step{api.Cmd{Kind: space.AddUser, A: "bob", User: "nobody", B: "b", N: -5, M: 99}, 200, "4", ""})
	check(t, "users", s, api.Space{Users: []string{"ann", "a", "a_23456789012345", "ann_", "bob"}, Pos: 6})
	refused(t, s, 400, addUser(""), addUser("Ann"), addUser("_a"), addUser("9"), addUser("a b"), addUser("é"), addUser("a_234567890123456"), addUser("a\xff"))
	refused(t, api.Space{}, 400, addUser(""), api.Cmd{Kind: space.AddUser, User: "ann"})
	for i := len(s.Users); i < 40; i++ {
		s = steps(t, s, step{addUser(fmt.Sprint("user", i)), 200, fmt.Sprint(i), ""})
	}
	refused(t, s, 507, addUser("more"))
	refused(t, s, 409, addUser("ann"), addUser("user39"))
	refused(t, s, 400, addUser("More"))
}

func TestP17_1AddChan(t *testing.T) {
	s := made(t, api.Space{}, addUser("ann"), addUser("bob"))
	s = steps(t, s,
		step{addChan("bob", "general", 0), 200, "0", ""},
		step{addChan("ann", "secret", 1), 200, "1", ""},
		step{addChan("ann", "ann", 0), 200, "2", ""})
	check(t, "channels", s.Chans, []api.Chan{{Name: "general", Members: []int{1}}, {Name: "secret", Closed: true, Members: []int{0}}, {Name: "ann", Members: []int{0}}})
	refused(t, s, 403, addChan("cy", "x", 0), addChan("", "x", 0), addChan("cy", "X", 0), addChan("cy", "x", 2), addChan("cy", "general", 0), addChan("Ann", "x", 0))
	refused(t, s, 400, addChan("ann", "", 0), addChan("ann", "X", 0), addChan("ann", "x", 2), addChan("ann", "x", -1), addChan("ann", "general", 2), addChan("ann", "a_234567890123456", 0), addChan("ann", "x", math.MaxInt), addChan("ann", "x", math.MinInt))
	refused(t, s, 409, addChan("ann", "general", 0), addChan("bob", "general", 1), addChan("ann", "secret", 0))
	for i := len(s.Chans); i < 40; i++ {
		s = steps(t, s, step{addChan("ann", fmt.Sprint("chan", i), i%2), 200, fmt.Sprint(i), ""})
	}
	refused(t, s, 507, addChan("ann", "more", 0))
	refused(t, s, 409, addChan("ann", "chan39", 0))
	refused(t, s, 400, addChan("ann", "more", 2))
	refused(t, s, 403, addChan("cy", "more", 0))
}

func TestP17_1Members(t *testing.T) {
	s := town(t)
	s = steps(t, s,
		step{join("dan", 0), 200, "", "0:join dan"},
		step{join("dan", 0), 200, "", "0:join dan"}, // who is a member is one still
		step{join("cy", 0), 200, "", "0:join cy"})
	check(t, "members rise", s.Chans[0].Members, []int{0, 1, 2, 3})
	s = steps(t, s,
		step{leave("bob", 0), 200, "", "0:leave bob"},
		step{leave("bob", 0), 403, "", ""},
		step{invite("dan", 0, "bob"), 200, "", "0:join bob"},
		step{invite("dan", 0, "bob"), 200, "", "0:join bob"},
		step{invite("dan", 0, "dan"), 200, "", "0:join dan"})
	check(t, "members behind an invitation", s.Chans[0].Members, []int{0, 1, 2, 3})
	s = steps(t, s,
		step{join("ann", 1), 403, "", ""},
		step{join("bob", 1), 200, "", "1:join bob"}, // a member joins a closed channel
		step{invite("bob", 1, "ann"), 200, "", "1:join ann"},
		step{join("ann", 1), 200, "", "1:join ann"},
		step{leave("bob", 1), 200, "", "1:leave bob"},
		step{join("bob", 1), 403, "", ""},
		step{leave("ann", 1), 200, "", "1:leave ann"},
		step{join("ann", 1), 403, "", ""},
		step{invite("ann", 1, "ann"), 403, "", ""},
		step{leave("cy", 2), 200, "", "2:leave cy"},
		step{join("ann", 2), 200, "", "2:join ann"})
	check(t, "members", []any{s.Chans[0].Members, len(s.Chans[1].Members), s.Chans[2].Members}, []any{[]int{0, 1, 2, 3}, 0, []int{0}})
	check(t, "posts of those who left", s.Posts, town(t).Posts)
	for _, kind := range []int{space.Join, space.Leave, space.Invite} {
		cmd := func(user string, n int, a string) api.Cmd { return api.Cmd{Kind: kind, User: user, N: n, A: a} }
		refused(t, town(t), 403, cmd("eve", 0, "ann"), cmd("", 0, "ann"), cmd("eve", 9, "eve"))
		refused(t, town(t), 404, cmd("ann", 3, "ann"), cmd("ann", -1, "ann"), cmd("ann", math.MaxInt, "ann"), cmd("ann", math.MinInt, "eve"))
	}
	refused(t, town(t), 403, leave("dan", 0), leave("ann", 1), invite("dan", 0, "ann"), invite("ann", 1, "eve"), invite("cy", 0, "eve"))
	refused(t, town(t), 404, invite("ann", 0, "eve"), invite("ann", 0, ""), invite("bob", 1, "Ann"))
}

func TestP17_1Post(t *testing.T) {
	s := steps(t, town(t),
		step{post("ann", 0, "a b", -1), 200, "5", "0:post 5 ann a b"},
		step{post("bob", 1, "x", 3), 200, "6", "1:post 6 bob x"},
		step{post("ann", 0, "more", 0), 200, "7", "0:post 7 ann more"})
	check(t, "posts", s.Posts[5:], []api.Post{{Parent: -1, Text: "a b"}, {Chan: 1, User: 1, Parent: 3, Text: "x"}, {Parent: 0, Text: "more"}})
	refused(t, s, 403, post("eve", 0, "hi", -1), post("eve", 9, "", 9), post("dan", 0, "hi", -1), post("ann", 1, "", 9), post("cy", 0, "hi", 0))
	refused(t, s, 404, post("ann", 3, "hi", -1), post("ann", -1, "", -1), post("dan", math.MaxInt, "hi", -1))
	refused(t, s, 400, post("ann", 0, "", -1), post("ann", 0, "", 99), post("ann", 0, "\xff", 1))
	refused(t, s, 404,
		post("ann", 0, "hi", 1), // itself an answer
		post("ann", 0, "hi", 2), // gone
		post("ann", 0, "hi", 3), // of another channel
		post("bob", 0, "hi", 6), post("ann", 0, "hi", 8), post("ann", 0, "hi", -2), post("ann", 0, "hi", math.MaxInt), post("ann", 0, "hi", math.MinInt))
	for len(s.Posts) < 300 {
		s = made(t, s, post("ann", 0, "hi", -1))
	}
	refused(t, s, 507, post("ann", 0, "hi", -1), post("ann", 0, "hi", 299), post("bob", 1, "hi", -1))
	refused(t, s, 404, post("ann", 0, "hi", 300), post("ann", 0, "hi", 1))
	refused(t, s, 400, post("ann", 0, "", -1))
	s = made(t, s, remove("ann", 299))
	refused(t, s, 507, post("ann", 0, "hi", -1)) // what is gone takes room still
}

// TestP17_1Texts: what may be the text of a post, of a new one and of an edited one.
func TestP17_1Texts(t *testing.T) {
	x := strings.Repeat
	s := town(t)
	for _, text := range []string{"a", " ", "\x00", "\n|\"", x("a", 24), x("é", 12), x("€", 8), x("😀", 6), "é", "\ufffd", "@ann @bob"} {
		steps(t, s, step{post("ann", 0, text, -1), 200, "5", "0:post 5 ann " + text}, step{edit("ann", 0, text), 200, "", "0:edit 0 " + text})
	}
	for _, text := range []string{"", x("a", 25), x("é", 12) + "a", x("é", 13), x("😀", 7), x("a", 5000), "\xff", "a\xc3", x("a", 23) + "\xc3", "\xed\xa0\x80", "\xc0\x80"} {
		refused(t, s, 400, post("ann", 0, text, -1), edit("ann", 0, text))
	}
}

func TestP17_1EditDelete(t *testing.T) {
	s := steps(t, town(t),
		step{edit("ann", 0, "ho"), 200, "", "0:edit 0 ho"},
		step{edit("ann", 0, "ho"), 200, "", "0:edit 0 ho"},
		step{edit("bob", 3, "a b"), 200, "", "1:edit 3 a b"},
		step{edit("bob", 1, "no"), 200, "", "0:edit 1 no"},
		step{remove("ann", 0), 200, "", "0:delete 0"},
		step{edit("ann", 0, "ho"), 404, "", ""},
		step{remove("ann", 0), 404, "", ""},
		step{remove("bob", 3), 200, "", "1:delete 3"})
	want := town(t)
	want.Posts = []api.Post{{Parent: -1, Edits: 2, Gone: true}, {User: 1, Parent: 0, Text: "no", Edits: 1}, {Parent: -1, Gone: true}, {Chan: 1, User: 1, Parent: -1, Edits: 1, Gone: true}, want.Posts[4]}
	want.Pos = 24
	check(t, "the space", s, want)
	s = made(t, town(t), join("cy", 0), leave("ann", 0))
	for _, cmd := range []func(user string, p int, text string) api.Cmd{edit, func(user string, p int, _ string) api.Cmd { return remove(user, p) }} {
		refused(t, s, 403, cmd("eve", 0, "hi"), cmd("eve", 99, "hi"), cmd("", 2, ""))
		refused(t, s, 404, cmd("bob", 2, "hi"), cmd("dan", 2, ""), cmd("bob", 5, "hi"), cmd("bob", -1, "hi"), cmd("bob", math.MaxInt, "hi"), cmd("bob", math.MinInt, "hi"))
		refused(t, s, 403, cmd("ann", 0, "hi"), cmd("cy", 0, "hi"), cmd("bob", 0, ""), cmd("ann", 3, "\xff"), cmd("dan", 4, "hi"))
	}
	refused(t, s, 400, edit("bob", 1, ""))
}

func TestP17_1React(t *testing.T) {
	s := steps(t, town(t),
		step{react("ann", 0, "ok"), 200, "1", "0:react 0 ann ok"},
		step{react("bob", 3, "ok"), 200, "1", "1:react 3 bob ok"},
		step{react("bob", 0, "no"), 200, "1", "0:react 0 bob no"},
		step{react("bob", 0, "a_23456789012345"), 200, "1", "0:react 0 bob a_23456789012345"},
		step{react("ann", 1, "ok"), 200, "1", "0:react 1 ann ok"})
	check(t, "marks", s.Marks, []api.Mark{{Post: 0, User: 1, Name: "ok"}, {Post: 0, User: 0, Name: "ok"}, {Post: 3, User: 1, Name: "ok"}, {Post: 0, User: 1, Name: "no"}, {Post: 0, User: 1, Name: "a_23456789012345"}, {Post: 1, User: 0, Name: "ok"}})
	s = steps(t, s,
		step{react("ann", 0, "ok"), 200, "0", "0:unreact 0 ann ok"},
		step{react("bob", 0, "ok"), 200, "0", "0:unreact 0 bob ok"},
		step{react("bob", 0, "ok"), 200, "1", "0:react 0 bob ok"})
	check(t, "marks at last", s.Marks, []api.Mark{{Post: 3, User: 1, Name: "ok"}, {Post: 0, User: 1, Name: "no"}, {Post: 0, User: 1, Name: "a_23456789012345"}, {Post: 1, User: 0, Name: "ok"}, {Post: 0, User: 1, Name: "ok"}})
	refused(t, s, 403, react("eve", 0, "ok"), react("eve", 9, "OK"), react("dan", 0, "ok"), react("ann", 3, ""), react("cy", 0, "ok"))
	refused(t, s, 404, react("ann", 2, "ok"), react("dan", 2, "OK"), react("ann", 5, "ok"), react("ann", -1, "ok"), react("ann", math.MaxInt, "ok"), react("ann", math.MinInt, ""))
	refused(t, s, 400, react("ann", 0, ""), react("ann", 0, "OK"), react("ann", 0, "a_234567890123456"), react("ann", 0, "+"), react("ann", 0, "é"))
	gone := made(t, s, remove("ann", 0))
	check(t, "marks of a post that is gone", gone.Marks, s.Marks)
	refused(t, gone, 404, react("bob", 0, "no"))
	for i := 0; len(s.Marks) < 300; i++ {
		s = steps(t, s, step{react("ann", 0, fmt.Sprint("r", i)), 200, "1", fmt.Sprint("0:react 0 ann r", i)})
	}
	refused(t, s, 507, react("ann", 0, "ok"), react("bob", 0, "r0"), react("ann", 1, "r0"))
	refused(t, s, 400, react("ann", 0, "OK"))
	s = steps(t, s, step{react("ann", 0, "r0"), 200, "0", "0:unreact 0 ann r0"}, step{react("ann", 0, "ok"), 200, "1", "0:react 0 ann ok"}, step{c: react("ann", 0, "r0"), code: 507})
}

func TestP17_1Read(t *testing.T) {
	s := steps(t, town(t),
		step{read("ann", 0, 0), 200, "", ""}, // less than what is read already
		step{read("ann", 0, 2), 200, "", ""}, // gone
		step{read("bob", 0, 0), 200, "", ""},
		step{read("bob", 1, 3), 200, "", ""},
		step{read("bob", 0, 1), 200, "", ""},
		step{read("bob", 0, 0), 200, "", ""},
		step{read("bob", 1, 3), 200, "", ""})
	check(t, "what is read", s.Seens, []api.Seen{{User: 0, Chan: 0, Upto: 2}, {User: 1, Chan: 0, Upto: 1}, {User: 1, Chan: 1, Upto: 3}})
	s = made(t, s, leave("ann", 0), join("ann", 0))
	check(t, "what is read by one who left", s.Seens[0], api.Seen{User: 0, Chan: 0, Upto: 2})
	refused(t, s, 403, read("eve", 0, 0), read("eve", 9, 9), read("dan", 0, 0), read("ann", 1, 3), read("cy", 0, 99))
	refused(t, s, 404, read("ann", 3, 0), read("ann", -1, 0), read("dan", math.MaxInt, 0), read("ann", 0, 3), read("ann", 0, 5), read("ann", 0, -1), read("bob", 1, 0), read("ann", 0, math.MaxInt), read("ann", 0, math.MinInt))
}

func TestP17_1OtherKinds(t *testing.T) {
	for _, k := range []int{0, 11, 12, -1, 257, math.MaxInt, math.MinInt} {
		refused(t, town(t), 400, api.Cmd{Kind: k, User: "ann"}, api.Cmd{Kind: k, User: "dan", A: "hi", N: 9, M: -1})
		refused(t, town(t), 403, api.Cmd{Kind: k}, api.Cmd{Kind: k, User: "eve", A: "eve"})
	}
	refused(t, api.Space{}, 403, api.Cmd{}, join("ann", 0), read("", 0, 0))
}

// apply applies a command, and holds its reply, how many events there are and the Pos behind it against what they must be.
func apply(t *testing.T, s api.Space, c api.Cmd, r api.Reply, events, pos int) api.Space {
	t.Helper()
	next, got, l := space.Apply(s, c)
	check(t, fmt.Sprintf("%+v", c), []any{got, len(l), next.Pos}, []any{r, events, pos})
	return next
}

// TestP17_1Requests: a request that has been answered is answered so again, whatever its command is now.
func TestP17_1Requests(t *testing.T) {
	s := made(t, api.Space{}, addUser("ann"), addChan("ann", "general", 0))
	hi := with("r1", post("ann", 0, "hi", -1))
	s = apply(t, s, hi, api.Reply{Code: 200, Body: "0"}, 1, 3)
	once := s
	for _, c := range []api.Cmd{hi, with("r1", post("eve", 9, "", 9)), with("r1", api.Cmd{Kind: 99}), with("r1", addUser("bob"))} {
		s = apply(t, s, c, api.Reply{Code: 200, Body: "0"}, 0, 3)
		check(t, "the space", s, once)
	}
	s = apply(t, s, with("r2", addUser("ann")), api.Reply{Code: 409}, 0, 4)
	s = apply(t, s, with("r2", addUser("bob")), api.Reply{Code: 409}, 0, 4)
	check(t, "the space behind a refusal", s, api.Space{Users: once.Users, Chans: once.Chans, Posts: once.Posts, Done: []api.Done{{Req: "r1", Reply: api.Reply{Code: 200, Body: "0"}}, {Req: "r2", Reply: api.Reply{Code: 409}}}, Pos: 4})
	s = apply(t, s, with("", addUser("bob")), api.Reply{Code: 200, Body: "1"}, 0, 5)
	s = apply(t, s, with("", addUser("bob")), api.Reply{Code: 409}, 0, 6)
	s = apply(t, s, with("R1", addUser("cy")), api.Reply{Code: 200, Body: "2"}, 0, 7)
	s = apply(t, s, with("r1 ", addUser("dan")), api.Reply{Code: 200, Body: "3"}, 0, 8)
	s = apply(t, s, with("\xff\x00", react("ann", 0, "ok")), api.Reply{Code: 200, Body: "1"}, 1, 9)
	s = apply(t, s, with("\xff\x00", react("ann", 0, "ok")), api.Reply{Code: 200, Body: "1"}, 0, 9)
	check(t, "the requests", s.Done[2:], []api.Done{{Req: "R1", Reply: api.Reply{Code: 200, Body: "2"}}, {Req: "r1 ", Reply: api.Reply{Code: 200, Body: "3"}}, {Req: "\xff\x00", Reply: api.Reply{Code: 200, Body: "1"}}})
}

func TestP17_1LongRequests(t *testing.T) {
	s := made(t, api.Space{}, addUser("ann"), addChan("ann", "general", 0))
	for _, req := range []string{"12345678901234567", "123456789012345é", strings.Repeat("r", 5000)} {
		for _, c := range []api.Cmd{post("ann", 0, "hi", -1), addUser("bob"), addUser("ann"), join("eve", 0), {Kind: 99}} {
			next := apply(t, s, with(req, c), api.Reply{Code: 400}, 0, 2)
			check(t, "nothing changes", next, s)
		}
	}
	for i, req := range []string{"1234567890123456", "12345678901234é"} {
		s = apply(t, s, with(req, post("ann", 0, "hi", -1)), api.Reply{Code: 200, Body: fmt.Sprint(i)}, 1, 3+i)
		s = apply(t, s, with(req, post("ann", 0, "hi", -1)), api.Reply{Code: 200, Body: fmt.Sprint(i)}, 0, 3+i)
	}
}

// TestP17_1ManyRequests: the first of 400 goes when another one comes, and is done anew when it is asked again.
func TestP17_1ManyRequests(t *testing.T) {
	s := made(t, api.Space{}, addUser("ann"), addChan("ann", "general", 0), post("ann", 0, "hi", -1))
	flip := func(i int) api.Cmd { return with(fmt.Sprint("r", i), react("ann", 0, "ok")) }
	body := func(i int) string { return fmt.Sprint((i + 1) % 2) }
	for i := range 400 {
		s = apply(t, s, flip(i), api.Reply{Code: 200, Body: body(i)}, 1, 4+i)
		check(t, "how many requests", len(s.Done), i+1)
	}
	for _, i := range []int{0, 1, 200, 399} {
		s = apply(t, s, flip(i), api.Reply{Code: 200, Body: body(i)}, 0, 403)
	}
	s = apply(t, s, with("r400", addUser("ann")), api.Reply{Code: 409}, 0, 404) // what is refused is noted, too
	check(t, "the requests", []any{len(s.Done), s.Done[0], s.Done[399]}, []any{400, api.Done{Req: "r1", Reply: api.Reply{Code: 200, Body: "0"}}, api.Done{Req: "r400", Reply: api.Reply{Code: 409}}})
	s = apply(t, s, flip(1), api.Reply{Code: 200, Body: "0"}, 0, 404)
	s = apply(t, s, flip(0), api.Reply{Code: 200, Body: "1"}, 1, 405)
	check(t, "the requests then", []any{len(s.Done), s.Done[0].Req, s.Done[398].Req, s.Done[399]}, []any{400, "r2", "r400", api.Done{Req: "r0", Reply: api.Reply{Code: 200, Body: "1"}}})
	s = apply(t, s, flip(1), api.Reply{Code: 200, Body: "0"}, 1, 406)
	s = apply(t, s, react("ann", 0, "ok"), api.Reply{Code: 200, Body: "1"}, 1, 407)
	check(t, "a command without a request", []any{len(s.Done), s.Done[0].Req}, []any{400, "r3"})
}

// TestP17_1Looks: User and Member.
func TestP17_1Looks(t *testing.T) {
	s := town(t)
	for name, want := range map[string]int{"ann": 0, "bob": 1, "cy": 2, "dan": 3, "eve": -1, "": -1, "Ann": -1, "an": -1, "ann ": -1} {
		check(t, fmt.Sprintf("%q", name), space.User(s, name), want)
		check(t, "in an empty space", space.User(api.Space{}, name), -1)
	}
	check(t, "the first of several", space.User(api.Space{Users: []string{"a", "b", "b"}}, "b"), 1)
	for c := -2; c < 6; c++ {
		for u := -2; u < 6; u++ {
			want := c == 0 && (u == 0 || u == 1) || c == 1 && u == 1 || c == 2 && u == 2
			check(t, fmt.Sprintf("is %d a member of %d", u, c), space.Member(s, c, u), want)
			check(t, "in an empty space", space.Member(api.Space{}, c, u), false)
		}
	}
	for _, n := range []int{math.MinInt, math.MaxInt} {
		check(t, "far off", []bool{space.Member(s, n, 0), space.Member(s, 0, n), space.Member(s, n, n)}, []bool{false, false, false})
	}
}

// TestP17_2Row: members rise and stand once, in whatever order they come and go.
func TestP17_2Row(t *testing.T) {
	s := made(t, api.Space{}, addUser("u0"), addChan("u0", "general", 0))
	for i := 1; i < 40; i++ {
		s = made(t, s, addUser(fmt.Sprint("u", i)))
	}
	r := rand.New(rand.NewSource(172))
	in := map[int]struct{}{0: {}}
	for range 3000 {
		u, w := r.Intn(40), r.Intn(40)
		switch r.Intn(3) {
		case 0:
			s = made(t, s, join(fmt.Sprint("u", u), 0))
			in[u] = struct{}{}
		case 1:
			if _, is := in[u]; is {
				s = made(t, s, invite(fmt.Sprint("u", u), 0, fmt.Sprint("u", w)))
				in[w] = struct{}{}
			}
		case 2:
			if _, is := in[u]; is {
				s = made(t, s, leave(fmt.Sprint("u", u), 0))
				delete(in, u)
			}
		}
		var want []int
		for i := range 40 {
			if _, is := in[i]; is {
				want = append(want, i)
			}
		}
		if !slices.Equal(s.Chans[0].Members, want) || !sound(s) {
			t.Fatalf("%v, not %v", s.Chans[0].Members, want)
		}
	}
}

// roomy copies a list into one with room behind it, in which something stands.
func roomy[T any](l []T, x T) []T {
	m := append(make([]T, 0, len(l)+3), l...)
	for i := range m[len(m):cap(m)] {
		m[:cap(m)][len(m)+i] = x
	}
	return m
}

// spacious is s in new memory, each list with room behind it.
func spacious(s api.Space) api.Space {
	s.Users = roomy(s.Users, "spare")
	s.Chans = roomy(s.Chans, api.Chan{Name: "spare"})
	for i := range s.Chans {
		s.Chans[i].Members = roomy(s.Chans[i].Members, 77)
	}
	s.Posts = roomy(s.Posts, api.Post{Text: "spare"})
	s.Marks = roomy(s.Marks, api.Mark{Name: "spare"})
	s.Seens = roomy(s.Seens, api.Seen{Upto: 77})
	s.Done = roomy(s.Done, api.Done{Req: "spare"})
	return s
}

// whole tells all of a space, and what stands in the room behind its lists.
func whole(s api.Space) string {
	text := fmt.Sprintf("%+v", []any{s.Users[:cap(s.Users)], s.Chans[:cap(s.Chans)], s.Posts[:cap(s.Posts)], s.Marks[:cap(s.Marks)], s.Seens[:cap(s.Seens)], s.Done[:cap(s.Done)], s})
	for _, x := range s.Chans {
		text += fmt.Sprintln(x.Members[:cap(x.Members)])
	}
	return text
}

func fill[T any](l []T, x T) {
	for i := range l[:cap(l)] {
		l[:cap(l)][i] = x
	}
}

// scribble writes over the lists of a space, one by one; after tells what mustn't change by that.
func scribble(s api.Space, after func()) {
	for _, x := range s.Chans {
		fill(x.Members, -9)
		after()
	}
	fill(s.Users, "?")
	after()
	fill(s.Chans, api.Chan{Name: "?"})
	after()
	fill(s.Posts, api.Post{Text: "?"})
	after()
	fill(s.Marks, api.Mark{Name: "?"})
	after()
	fill(s.Seens, api.Seen{Upto: -9})
	after()
	fill(s.Done, api.Done{Req: "?"})
	after()
}

// all are commands of all kinds, done and refused, new and asked again.
var all = []api.Cmd{
	addUser("eve"), addUser("ann"), addChan("ann", "new", 0), join("dan", 0), join("ann", 0), join("bob", 1), leave("ann", 0), leave("bob", 1), leave("dan", 0), invite("bob", 1, "ann"), invite("ann", 0, "dan"),
	post("ann", 0, "hi", -1), post("bob", 0, "hi", 0), post("bob", 9, "hi", 0), edit("ann", 0, "ho"), edit("bob", 0, "ho"), remove("bob", 3), react("bob", 0, "ok"), react("ann", 0, "ok"), react("ann", 0, ""), read("ann", 0, 2), read("bob", 1, 3), read("ann", 0, 9),
	{Kind: 99, User: "ann"}, with("r1", addUser("eve")), with("r2", post("ann", 0, "hi", -1)), with("r3", join("eve", 0)), with("12345678901234567", addUser("eve")),
}

// TestP17_3Memory: nothing that is handed in changes, nor the room behind it, and no two lists share anything.
func TestP17_3Memory(t *testing.T) {
	for _, base := range []api.Space{town(t), made(t, town(t), with("r1", addUser("eve")))} {
		for _, c := range all {
			s := spacious(base)
			was := whole(s)
			next, r, l := space.Apply(s, c)
			other, otherReply, otherList := space.Apply(s, c)
			want := fmt.Sprintf("%+v", []any{other, otherReply, otherList})
			check(t, fmt.Sprintf("%+v, two times", c), []any{next, r, l}, []any{other, otherReply, otherList})
			scribble(next, func() {})
			fill(l, api.Event{Text: "?"})
			check(t, fmt.Sprintf("%+v: what was handed in", c), whole(s), was)
			check(t, fmt.Sprintf("%+v: the other answer", c), []any{other, otherReply, otherList}, want)
			scribble(s, func() {})
			check(t, fmt.Sprintf("%+v: an answer when what was handed in is written over", c), []any{other, otherReply, otherList}, want)
		}
	}
}

// TestP17_3Lists: the lists of one answer share nothing with one another.
func TestP17_3Lists(t *testing.T) {
	for _, c := range all {
		s, _, _ := space.Apply(made(t, town(t), with("r1", addUser("eve")), join("cy", 0), join("ann", 2)), c)
		for i, x := range s.Chans {
			chans := slices.Clone(s.Chans)
			was := fmt.Sprintln(chans[:i], chans[i+1:])
			fill(x.Members, -9)
			check(t, fmt.Sprintf("%+v: members of others than %d", c, i), fmt.Sprintln(chans[:i], chans[i+1:]), was)
			for j := range x.Members[:cap(x.Members)] {
				x.Members[:cap(x.Members)][j] = j
			}
		}
	}
}

func TestP17_3Clone(t *testing.T) {
	check(t, "of nothing", space.Clone(api.Space{}), api.Space{})
	s := spacious(made(t, town(t), with("r1", addUser("eve"))))
	was := whole(s)
	c := space.Clone(s)
	check(t, "a copy", c, s)
	want := fmt.Sprintf("%+v", c)
	other := space.Clone(s)
	scribble(other, func() {
		check(t, "what was handed in", whole(s), was)
		check(t, "a copy when another one is written over", c, want)
	})
	scribble(s, func() { check(t, "a copy when what was copied is written over", c, want) })
}

package derived_test

import (
	"fmt"
	"math"
	"strings"
	"testing"

	"parley/api"
	"parley/derived"
	"parley/space"
)

func check(t *testing.T, what string, got, want any) {
	t.Helper()
	if g, w := fmt.Sprintf("%+v", got), fmt.Sprintf("%+v", want); g != w {
		t.Errorf("%s: %.1000s, not %.1000s", what, g, w)
	}
}

// The commands, in short.
func addUser(name string) api.Cmd { return api.Cmd{Kind: space.AddUser, A: name} }
func addChan(user, name string) api.Cmd {
	return api.Cmd{Kind: space.AddChan, User: user, A: name}
}
func join(user string, c int) api.Cmd  { return api.Cmd{Kind: space.Join, User: user, N: c} }
func leave(user string, c int) api.Cmd { return api.Cmd{Kind: space.Leave, User: user, N: c} }
func invite(user string, c int, who string) api.Cmd {
	return api.Cmd{Kind: space.Invite, User: user, N: c, A: who}
}
func post(user string, c int, text string, parent int) api.Cmd {
	return api.Cmd{Kind: space.Post, User: user, N: c, A: text, M: parent}
}
func edit(user string, p int, text string) api.Cmd {
	return api.Cmd{Kind: space.Edit, User: user, N: p, A: text}
}
func remove(user string, p int) api.Cmd { return api.Cmd{Kind: space.Delete, User: user, N: p} }
func react(user string, p int, name string) api.Cmd {
	return api.Cmd{Kind: space.React, User: user, N: p, A: name}
}
func read(user string, c, upto int) api.Cmd {
	return api.Cmd{Kind: space.Read, User: user, N: c, M: upto}
}

// with is a command of a request.
func with(req string, c api.Cmd) api.Cmd {
	c.Req = req
	return c
}

// do does commands, all of which must be done.
func do(t *testing.T, x *derived.Index, cmds ...api.Cmd) {
	t.Helper()
	for _, c := range cmds {
		if r, _ := x.Do(c); r.Code != 200 {
			t.Fatalf("%+v: %+v", c, r)
		}
	}
}

// general has ann (0) and bob (1) in general (0); cy (2) is nowhere.
func general(t *testing.T, cmds ...api.Cmd) *derived.Index {
	t.Helper()
	x := derived.New()
	do(t, x, addUser("ann"), addUser("bob"), addUser("cy"), addChan("ann", "general"), join("bob", 0))
	do(t, x, cmds...)
	return x
}

func TestP18_1New(t *testing.T) {
	x := derived.New()
	check(t, "the workspace", x.Space(), api.Space{})
	agrees(t, "a new one", x, api.Space{})
	check(t, "two are two", derived.New() == x, false)
	do(t, x, addUser("ann"))
	check(t, "another one", derived.New().Space(), api.Space{})
}

func TestP18_1Do(t *testing.T) {
	x, s := derived.New(), api.Space{}
	for i, c := range []api.Cmd{
		addUser("ann"), addUser("ann"), addUser("bob"), addChan("ann", "general"), join("bob", 0), with("r1", post("ann", 0, "hi @bob", -1)), with("r1", post("ann", 0, "hi @bob", -1)), with("12345678901234567", addUser("cy")), post("eve", 0, "hi", -1),
		post("bob", 0, "yes", 0), react("bob", 0, "ok"), react("bob", 0, "ok"), with("r2", react("ann", 0, "OK")), with("r2", react("ann", 0, "ok")), edit("ann", 0, "ho"), edit("bob", 0, "ho"), read("bob", 0, 1), remove("ann", 0), remove("ann", 0), leave("ann", 0), {}, {Kind: 99, User: "ann"},
	} {
		next, reply, events := space.Apply(s, c)
		r, l := x.Do(c)
		check(t, fmt.Sprintf("%d, %+v", i, c), []any{r, l, x.Space()}, []any{reply, events, next})
		agrees(t, fmt.Sprintf("%d, %+v", i, c), x, next)
		s = next
	}
}

func TestP18_2Examples(t *testing.T) {
	x := general(t, post("ann", 0, "hi @bob", -1), post("ann", 0, "more", -1))
	check(t, "unread, mentions, line", []any{x.Unread(1, 0), x.Mentions(1), x.Line(1)}, []any{2, []int{0}, "general**"})
	do(t, x, read("bob", 0, 0))
	check(t, "behind the first one", x.Unread(1, 0), 1)
	do(t, x, remove("ann", 1))
	check(t, "when the second one is gone", x.Unread(1, 0), 0)
	do(t, x, react("ann", 0, "ok"), react("bob", 0, "ok"))
	check(t, "reactions", x.Reactions(0), []derived.Count{{Name: "ok", N: 2}})
	do(t, x, edit("ann", 0, "hi"))
	check(t, "no mention", len(x.Mentions(1)), 0)
}

// unread holds how much of channel 0 each of ann, bob and cy hasn't read.
func unread(t *testing.T, what string, x *derived.Index, want ...int) {
	t.Helper()
	check(t, what, []int{x.Unread(0, 0), x.Unread(1, 0), x.Unread(2, 0)}, want)
}

func TestP18_2Unread(t *testing.T) {
	x := general(t, post("ann", 0, "a", -1), post("bob", 0, "b", -1), post("ann", 0, "c", 0), post("ann", 0, "d", -1))
	unread(t, "one's own aren't unread", x, 1, 3, 0)
	do(t, x, join("cy", 0))
	unread(t, "who comes has read nothing", x, 1, 3, 4)
	do(t, x, edit("ann", 0, "@bob"), react("bob", 0, "ok"), join("cy", 0), invite("cy", 0, "bob"))
	unread(t, "what changes nothing", x, 1, 3, 4)
	do(t, x, read("bob", 0, 2))
	unread(t, "bob has read up to 2", x, 1, 1, 4)
	do(t, x, read("bob", 0, 0))
	unread(t, "and no less", x, 1, 1, 4)
	do(t, x, remove("ann", 0))
	unread(t, "one that bob has read goes", x, 1, 1, 3)
	do(t, x, remove("bob", 1))
	unread(t, "one of bob's goes", x, 0, 1, 2)
	do(t, x, read("cy", 0, 1))
	unread(t, "up to one that is gone", x, 0, 1, 2)
	do(t, x, leave("bob", 0), post("ann", 0, "e", -1))
	unread(t, "bob is no member", x, 0, 0, 3)
	do(t, x, remove("ann", 3))
	unread(t, "bob is no member still", x, 0, 0, 2)
	do(t, x, join("bob", 0))
	unread(t, "bob is back: what was read is read still", x, 0, 1, 2)
	do(t, x, leave("ann", 0), leave("cy", 0), invite("bob", 0, "ann"), post("bob", 0, "f", -1))
	unread(t, "ann is back", x, 1, 1, 0)
	do(t, x, invite("ann", 0, "cy"))
	unread(t, "cy is back", x, 1, 1, 3)
	do(t, x, read("cy", 0, 5), post("cy", 0, "g", -1))
	unread(t, "at last", x, 2, 2, 0)
	agrees(t, "at last", x, x.Space())
}

func TestP18_2UnreadChannels(t *testing.T) {
	x := general(t, addChan("bob", "other"), join("ann", 1), post("ann", 0, "a", -1), post("ann", 1, "b", -1), post("ann", 0, "c", -1), post("ann", 1, "d", -1))
	check(t, "each on its own", []int{x.Unread(1, 0), x.Unread(1, 1), x.Unread(0, 0), x.Unread(0, 1)}, []int{2, 2, 0, 0})
	do(t, x, read("bob", 1, 3))
	check(t, "one is read", []int{x.Unread(1, 0), x.Unread(1, 1)}, []int{2, 0})
	do(t, x, remove("ann", 2), leave("bob", 1))
	check(t, "one is left", []int{x.Unread(1, 0), x.Unread(1, 1)}, []int{1, 0})
	for _, n := range []int{-1, 2, 3, 40, math.MaxInt, math.MinInt} {
		check(t, fmt.Sprint("channel ", n), x.Unread(1, n), 0)
		check(t, fmt.Sprint("user ", n), x.Unread(n, 0), 0)
	}
}

func TestP18_2Mentions(t *testing.T) {
	x := general(t, addChan("ann", "other"), post("ann", 0, "@bob @ann", -1), post("bob", 0, "x@bob @@bob", -1), post("bob", 0, "@bob @bob", -1), post("ann", 1, "@bob @dan", -1), post("ann", 0, "@dan, hi", 0))
	check(t, "ann, bob", []any{x.Mentions(0), x.Mentions(1), len(x.Mentions(2))}, []any{[]int{0}, []int{0, 2}, 0})
	do(t, x, join("bob", 1))
	check(t, "bob comes", x.Mentions(1), []int{0, 2, 3})
	check(t, "no user 3 yet", len(x.Mentions(3)), 0)
	do(t, x, addUser("dan"))
	check(t, "no member yet", len(x.Mentions(3)), 0)
	do(t, x, join("dan", 0))
	check(t, "mentioned ahead of being a user", x.Mentions(3), []int{4})
	do(t, x, edit("bob", 1, "oh @bob"), edit("ann", 0, "@ann @cy"))
	check(t, "edited", []any{x.Mentions(0), x.Mentions(1)}, []any{[]int{0}, []int{1, 2, 3}})
	do(t, x, edit("ann", 0, "@bob"))
	check(t, "edited again", []any{len(x.Mentions(0)), x.Mentions(1)}, []any{0, []int{0, 1, 2, 3}})
	do(t, x, edit("ann", 0, "@bob"), remove("bob", 2), read("bob", 0, 1))
	check(t, "one is gone", x.Mentions(1), []int{0, 1, 3})
	do(t, x, leave("bob", 0))
	check(t, "bob left", x.Mentions(1), []int{3})
	do(t, x, remove("ann", 0), remove("ann", 4), invite("ann", 0, "bob"))
	check(t, "bob is back", x.Mentions(1), []int{1, 3})
	for _, n := range []int{-1, 4, 5, 40, math.MaxInt, math.MinInt} {
		check(t, fmt.Sprint("user ", n), len(x.Mentions(n)), 0)
	}
	agrees(t, "at last", x, x.Space())
}

func TestP18_2Reactions(t *testing.T) {
	x := general(t, post("ann", 0, "a", -1), post("ann", 0, "b", -1), react("ann", 0, "ok"), react("bob", 0, "no"), react("bob", 0, "ok"), react("bob", 0, "a_1"), react("bob", 1, "z"), react("ann", 0, "o"))
	ofFirst := []derived.Count{{Name: "a_1", N: 1}, {Name: "no", N: 1}, {Name: "o", N: 1}, {Name: "ok", N: 2}}
	check(t, "by names", []any{x.Reactions(0), x.Reactions(1)}, []any{ofFirst, []derived.Count{{Name: "z", N: 1}}})
	do(t, x, remove("ann", 0))
	check(t, "of a post that is gone", x.Reactions(0), ofFirst)
	do(t, x, react("bob", 1, "z"), react("ann", 1, "ok"), react("bob", 1, "ok"), react("ann", 1, "ok"), leave("bob", 0))
	check(t, "taken back", x.Reactions(1), []derived.Count{{Name: "ok", N: 1}})
	do(t, x, join("bob", 0), react("bob", 1, "ok"))
	check(t, "of none", len(x.Reactions(1)), 0)
	for _, n := range []int{-1, 2, 300, math.MaxInt, math.MinInt} {
		check(t, fmt.Sprint("post ", n), len(x.Reactions(n)), 0)
	}
}

func TestP18_2Answers(t *testing.T) {
	x := general(t, post("ann", 0, "a", -1), post("bob", 0, "b", -1), post("ann", 0, "c", 0), post("bob", 0, "d", 1), post("bob", 0, "e", 0), post("bob", 0, "f", 0))
	check(t, "rising", []any{x.Answers(0), x.Answers(1)}, []any{[]int{2, 4, 5}, []int{3}})
	check(t, "an answer has none", len(x.Answers(2)), 0)
	do(t, x, remove("bob", 4), edit("ann", 2, "C"))
	check(t, "one is gone", x.Answers(0), []int{2, 5})
	do(t, x, remove("ann", 0))
	check(t, "of a post that is gone", x.Answers(0), []int{2, 5})
	do(t, x, remove("bob", 3), leave("bob", 0))
	check(t, "all are gone; who left matters nothing", []any{len(x.Answers(1)), x.Answers(0)}, []any{0, []int{2, 5}})
	for _, n := range []int{-1, -2, 6, 300, math.MaxInt, math.MinInt} {
		check(t, fmt.Sprint("post ", n), len(x.Answers(n)), 0)
	}
}

func TestP18_2Line(t *testing.T) {
	x := general(t, addChan("bob", "zoo"), addChan("bob", "b"), addChan("ann", "a"), join("bob", 3), join("ann", 1))
	check(t, "nothing is unread", []string{x.Line(0), x.Line(1), x.Line(2)}, []string{"general zoo a", "general zoo b a", ""})
	do(t, x, post("ann", 1, "hi", -1), post("ann", 3, "hi", -1), post("ann", 3, "hi", -1), post("bob", 0, "hi", -1))
	check(t, "by rising numbers", []string{x.Line(0), x.Line(1), x.Line(2)}, []string{"general* zoo a", "general zoo* b a**", ""})
	do(t, x, leave("bob", 1), leave("ann", 0))
	check(t, "some left", []string{x.Line(0), x.Line(1)}, []string{"zoo a", "general b a**"})
	for _, n := range []int{-1, 3, 40, math.MaxInt, math.MinInt} {
		check(t, fmt.Sprint("user ", n), x.Line(n), "")
	}
	y := general(t)
	for range 299 {
		do(t, y, post("ann", 0, "hi", -1))
	}
	check(t, "many", y.Line(1), "general"+strings.Repeat("*", 299))
}

// TestP18_2Once: what is refused, or asked again, counts for nothing.
func TestP18_2Once(t *testing.T) {
	x := general(t)
	for range 3 {
		do(t, x, with("r1", post("ann", 0, "@bob", -1)), with("r2", post("bob", 0, "hi", 0)), with("r3", react("bob", 0, "ok")), with("r4", remove("bob", 1)))
		for _, c := range []api.Cmd{post("cy", 0, "@bob", -1), post("ann", 0, "", -1), edit("bob", 0, "hi"), remove("bob", 0), react("cy", 0, "ok"), read("cy", 0, 0), read("bob", 0, 9), leave("cy", 0), join("eve", 0), invite("cy", 0, "cy"), with("12345678901234567", post("ann", 0, "@bob", -1))} {
			if r, l := x.Do(c); r.Code == 200 || len(l) > 0 {
				t.Errorf("%+v: %+v, %+v", c, r, l)
			}
		}
		check(t, "what is counted", []any{x.Unread(1, 0), x.Unread(0, 0), x.Mentions(1), x.Reactions(0), len(x.Answers(0)), x.Line(1), x.Line(2)}, []any{1, 0, []int{0}, []derived.Count{{Name: "ok", N: 1}}, 0, "general*", ""})
	}
}

func fill[T any](l []T, x T) {
	for i := range l[:cap(l)] {
		l[:cap(l)][i] = x
	}
}

// scribble writes over all lists of a space.
func scribble(s api.Space) {
	for _, x := range s.Chans {
		fill(x.Members, 9)
	}
	fill(s.Users, "?")
	fill(s.Chans, api.Chan{Name: "?"})
	fill(s.Posts, api.Post{Text: "?"})
	fill(s.Marks, api.Mark{Name: "?"})
	fill(s.Seens, api.Seen{Upto: 99})
	fill(s.Done, api.Done{Req: "?"})
}

// TestP18_3Memory: whatever is written into answers, the Index stays as it is.
func TestP18_3Memory(t *testing.T) {
	x, s := derived.New(), api.Space{}
	for _, c := range []api.Cmd{
		addUser("ann"), addUser("bob"), addChan("ann", "general"), join("bob", 0), with("r1", post("ann", 0, "@bob", -1)), post("ann", 0, "@bob @ann", -1), post("ann", 0, "c", 0), with("r2", post("bob", 0, "@bob", 0)), react("ann", 0, "ok"), react("bob", 0, "ok"), react("bob", 0, "no"),
		read("bob", 0, 0), edit("ann", 1, "@bob"), with("r1", addUser("cy")), remove("ann", 2), addUser("ann"), post("bob", 0, "@bob", 0), leave("ann", 0), join("ann", 0),
	} {
		s, _, _ = space.Apply(s, c)
		_, l := x.Do(c)
		fill(l, api.Event{Text: "?"})
		for range 2 {
			agrees(t, fmt.Sprintf("%+v", c), x, s)
			scribble(x.Space())
			for _, n := range numbers(5) {
				fill(x.Mentions(n), 9)
				fill(x.Answers(n), 9)
				fill(x.Reactions(n), derived.Count{Name: "?"})
			}
		}
		first := []any{x.Space(), x.Mentions(1), x.Answers(0), x.Reactions(0)}
		want := fmt.Sprint(first)
		scribble(x.Space())
		fill(x.Mentions(1), 9)
		fill(x.Answers(0), 9)
		fill(x.Reactions(0), derived.Count{Name: "?"})
		check(t, "other answers", fmt.Sprint(first), want)
	}
}

// TestP18_3Later: answers stay as they are when other commands follow.
func TestP18_3Later(t *testing.T) {
	x := general(t, post("ann", 0, "@bob", -1), post("ann", 0, "@bob", 0), post("ann", 0, "@bob", 0), react("bob", 0, "ok"))
	_, events := x.Do(react("ann", 0, "no"))
	all := []any{x.Space(), x.Mentions(1), x.Answers(0), x.Reactions(0), events}
	want := fmt.Sprint(all)
	do(t, x, remove("ann", 1), edit("ann", 0, "hi"), react("bob", 0, "ok"), leave("ann", 0), read("bob", 0, 1), addUser("dan"), join("ann", 0), post("ann", 0, "@bob", 0))
	check(t, "answers", fmt.Sprint(all), want)
}

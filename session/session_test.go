package session_test

import (
	"fmt"
	"math"
	"slices"
	"strings"
	"testing"
	"unsafe"

	"parley/api"
	"parley/session"
	"parley/space"
)

func check(t *testing.T, what string, got, want any) {
	t.Helper()
	if g, w := fmt.Sprintf("%+v", got), fmt.Sprintf("%+v", want); g != w {
		t.Errorf("%s: %.1000s, not %.1000s", what, g, w)
	}
}

// The commands, in short.
func addUser(name string) api.Cmd { return api.Cmd{Kind: space.AddUser, A: name} }
func addChan(user, name string, closed int) api.Cmd {
	return api.Cmd{Kind: space.AddChan, User: user, A: name, N: closed}
}
func join(user string, c int) api.Cmd  { return api.Cmd{Kind: space.Join, User: user, N: c} }
func leave(user string, c int) api.Cmd { return api.Cmd{Kind: space.Leave, User: user, N: c} }
func invite(user string, c int, who string) api.Cmd {
	return api.Cmd{Kind: space.Invite, User: user, N: c, A: who}
}
func post(user string, c int, text string) api.Cmd {
	return api.Cmd{Kind: space.Post, User: user, N: c, A: text, M: -1}
}
func edit(user string, p int, text string) api.Cmd {
	return api.Cmd{Kind: space.Edit, User: user, N: p, A: text}
}
func remove(user string, p int) api.Cmd { return api.Cmd{Kind: space.Delete, User: user, N: p} }
func react(user string, p int, name string) api.Cmd {
	return api.Cmd{Kind: space.React, User: user, N: p, A: name}
}
func read(user string, c, upto int) api.Cmd {
	return api.Cmd{Kind: space.Read, User: user, N: c, M: upto}
}

// with is a command of a request.
func with(req string, c api.Cmd) api.Cmd {
	c.Req = req
	return c
}

// issued is a token that must be to be had.
func issued(t *testing.T, key []byte, user string, until int) string {
	t.Helper()
	s, e := session.Issue(key, user, until)
	if e != api.OK {
		t.Fatalf("%q, %d: error %d", user, until, e)
	}
	return s
}

// verified holds what comes of a token.
func verified(t *testing.T, what, key, token string, now int, user string, e api.Errno) {
	t.Helper()
	got, err := session.Verify([]byte(key), token, now)
	check(t, fmt.Sprintf("%s: %.80q at %d", what, token, now), fmt.Sprintf("%q, %d", got, err), fmt.Sprintf("%q, %d", user, e))
}

func TestP20_1Examples(t *testing.T) {
	s := issued(t, []byte("k"), "ann", 5)
	check(t, "its beginning and length", []any{s[:6], len(s)}, []any{"ann.5.", 46})
	verified(t, "example", "k", s, 4, "ann", api.OK)
	verified(t, "example", "k", s, 5, "", api.ErrOld)
	verified(t, "example", "l", s, 4, "", api.ErrAuth)
	verified(t, "example", "k", "ann.05.x", 4, "", api.ErrText)
	verified(t, "example", "k", "ann.5", 4, "", api.ErrText)
}

func TestP20_1Issue(t *testing.T) {
	for _, key := range []string{"", "k", "key", "\x00\xff", strings.Repeat("k", 64), strings.Repeat("k", 65), strings.Repeat("k", 1000)} {
		for _, user := range []string{"a", "ann", "a_1", "z234567890123456"} {
			for _, until := range []int{0, 1, 10, 99, 1 << 40, math.MaxInt} {
				check(t, fmt.Sprintf("%.10q, %q, %d", key, user, until), issued(t, []byte(key), user, until), marked(key, fmt.Sprint(user, ".", until)))
			}
		}
	}
	check(t, "no key", issued(t, nil, "ann", 5), issued(t, []byte{}, "ann", 5))
	for _, user := range []string{"", "Ann", "_a", "9", "a b", "a.b", "ann.", ".", "é", "a\xff", "a2345678901234567"} {
		s, e := session.Issue([]byte("k"), user, 5)
		check(t, fmt.Sprintf("%q", user), fmt.Sprintf("%q, %d", s, e), fmt.Sprintf("%q, %d", "", api.ErrArg))
	}
	for _, until := range []int{-1, -5, math.MinInt} {
		s, e := session.Issue([]byte("k"), "ann", until)
		check(t, fmt.Sprint("until ", until), fmt.Sprintf("%q, %d", s, e), fmt.Sprintf("%q, %d", "", api.ErrArg))
	}
}

// TestP20_1Ticks: an issued token is its user's ahead of its tick, and no more at it.
func TestP20_1Ticks(t *testing.T) {
	for _, until := range []int{0, 1, 7, 1000, math.MaxInt} {
		s := issued(t, []byte("k"), "ann", until)
		for _, now := range []int{math.MinInt, -1, until - 1} {
			verified(t, "ahead of its tick", "k", s, now, "ann", api.OK)
		}
		for _, now := range []int{until, max(until, until+1), math.MaxInt} {
			verified(t, "behind its tick", "k", s, now, "", api.ErrOld)
		}
	}
}

// TestP20_1Texts: what hasn't the form is told so, whatever its mark, key and tick are.
func TestP20_1Texts(t *testing.T) {
	mark := strings.Repeat("0", 40)
	for _, head := range []string{
		"", "ann", "ann.", "ann.5", ".", ".5", "..", ".5.", "5.ann.", "Ann.5.", "_a.5.", "9.5.", "a b.5.", " ann.5.", "ann .5.", "é.5.", "a\xff.5.", "a2345678901234567.5.",
		"ann..", "ann.05.", "ann.00.", "ann.+5.", "ann.-5.", "ann.-0.", "ann.-1.", "ann. 5.", "ann.5 .", "ann.0x5.", "ann.5e1.", "ann.1_0.", "ann.٥.", "ann.a.", "ann.5\x00.", "ann.\xff.", "ann.5,0.",
		"ann.9223372036854775808.", "ann.18446744073709551616.", "ann.18446744073709551621.", "ann.99999999999999999999999999.", "ann.5..", "ann.5.5.", "ann..5.", "x.ann.5.", ".ann.5.",
	} {
		verified(t, "no mark", "k", head, 0, "", api.ErrText)
		if strings.Count(head, ".") > 1 {
			verified(t, "a wrong mark", "k", head+mark, 0, "", api.ErrText)
			verified(t, "a right mark", "k", marked("k", strings.TrimSuffix(head, ".")), 0, "", api.ErrText)
		}
	}
	s := issued(t, []byte("k"), "ann", 5)
	for _, token := range []string{s + ".", s + ".x", "." + s, s[:20] + "." + s[20:], s + "." + s} {
		verified(t, "full stops", "k", token, 9, "", api.ErrText)
	}
}

// TestP20_1Marks: what has the form, but not the mark, is refused, also behind its tick.
func TestP20_1Marks(t *testing.T) {
	s := issued(t, []byte("k"), "ann", 5)
	for _, token := range []string{
		"ann.5.", "ann.5.x", "ann.5.\xff", "ann.5. ", s[:45], s + "0", s + " ", s[:6] + strings.ToUpper(s[6:]), s[:6] + s[7:] + s[6:7], "bob.5." + s[6:], "anna.5." + s[6:], "ann.6." + s[6:], "ann.55." + s[6:], "ann.0." + s[6:], "ann.9223372036854775807." + s[6:], "ann.5." + strings.Repeat("é", 20), marked("l", "ann.5"), "ann.5" + marked("k", "ann.5.")[6:], "a234567890123456.5." + s[6:],
	} {
		for _, now := range []int{-1, 4, 5, 99, math.MaxInt} {
			verified(t, "a wrong mark", "k", token, now, "", api.ErrAuth)
		}
	}
	for _, key := range []string{"", "l", "K", "kk", "k ", "\x00k", strings.Repeat("k", 65)} {
		verified(t, "another key", key, s, 4, "", api.ErrAuth)
		verified(t, "another key, behind its tick", key, s, 5, "", api.ErrAuth)
	}
	for i := range s {
		for _, c := range []byte{s[i] ^ 1, s[i] ^ 2, 'g', '0'} {
			if token := s[:i] + string([]byte{c}) + s[i+1:]; token != s {
				if u, e := session.Verify([]byte("k"), token, 4); u != "" || e != api.ErrAuth && e != api.ErrText {
					t.Errorf("%q: %q, error %d", token, u, e)
				}
			}
		}
	}
}

// town has ann and bob in channel 0, bob in channel 1, which is closed; cy is nowhere.
func town() api.Space {
	return api.Space{Users: []string{"ann", "bob", "cy"}, Chans: []api.Chan{{Name: "general", Members: []int{0, 1}}, {Name: "secret", Closed: true, Members: []int{1}}}}
}

func event(pos, c int, text string) api.Event {
	return api.Event{Pos: pos, Chan: c, Text: text}
}

// events are some of a channel, from a place on.
func events(first, count, c int) []api.Event {
	var l []api.Event
	for i := range count {
		l = append(l, event(first+i, c, fmt.Sprint("event ", first+i)))
	}
	return l
}

// taken holds what is taken, and how many wait behind it.
func taken(t *testing.T, what string, f *session.Feed, most int, want []api.Event, open bool, waiting int) {
	t.Helper()
	l, ok := f.Take(most)
	check(t, what, []any{len(l), l, ok, f.Waiting()}, []any{len(want), append([]api.Event{}, want...), open, waiting})
}

func TestP20_2New(t *testing.T) {
	const most = session.MaxQueue
	check(t, "MaxQueue", most, 16)
	for _, user := range []string{"ann", "", "nobody", "\xff"} {
		f := session.Follow(user, 0)
		check(t, "none wait", f.Waiting(), 0)
		taken(t, "a new one", f, 9, nil, true, 0)
	}
}

// TestP20_2See: events behind the place, of channels of which the user was or is a member, in order.
func TestP20_2See(t *testing.T) {
	s := town()
	l := []api.Event{event(1, 0, "a"), event(2, 1, "b"), event(3, 0, "c"), event(3, 1, "d"), event(5, 0, "e"), event(4, 0, "f"), event(6, -1, "g"), event(6, 2, "h"), event(7, math.MaxInt, "i"), event(7, math.MinInt, "j"), event(math.MaxInt, 0, "k"), event(math.MinInt, 0, "l"), event(3, 0, "c")}
	for _, c := range []struct {
		user string
		from int
		want string
	}{
		{"ann", 0, "acefkc"}, {"bob", 0, "abcdefkc"}, {"cy", 0, ""}, {"", 0, ""}, {"eve", 0, ""}, {"an", 0, ""}, {"Ann", 0, ""},
		{"ann", 1, "cefkc"}, {"ann", 3, "efk"}, {"ann", 4, "ek"}, {"ann", 5, "k"}, {"ann", math.MaxInt - 1, "k"}, {"ann", math.MaxInt, ""}, {"ann", -1, "acefkc"}, {"ann", math.MinInt, "acefkc"}, {"ann", math.MinInt + 1, "acefkc"},
	} {
		f := session.Follow(c.user, c.from)
		f.See(s, s, l)
		got, ok := f.Take(99)
		text := ""
		for _, e := range got {
			text += e.Text
		}
		check(t, fmt.Sprintf("%q from %d", c.user, c.from), []any{text, ok}, []any{c.want, true})
	}
	f := session.Follow("ann", 0)
	f.See(s, s, []api.Event{event(7, 0, "all of it")})
	taken(t, "an event", f, 1, []api.Event{event(7, 0, "all of it")}, true, 0)
	f = session.Follow("ann", math.MinInt)
	f.See(s, s, []api.Event{event(math.MinInt+1, 0, "a")})
	check(t, "of a place far ahead", f.Waiting(), 1)
}

// TestP20_2Members: a member ahead or behind sees what is told, each by the number that the name has there.
func TestP20_2Members(t *testing.T) {
	in, out := town(), town()
	out.Chans[0].Members = nil
	other := api.Space{Users: []string{"bob", "ann"}, Chans: []api.Chan{{Members: []int{1}}, {Members: []int{0}}}}
	less := api.Space{Users: []string{"bob"}}
	for _, c := range []struct {
		what          string
		before, after api.Space
		c, want       int
	}{
		{"in both", in, in, 0, 1}, {"who leaves", in, out, 0, 1}, {"who comes", out, in, 0, 1}, {"in neither", out, out, 0, 0}, {"in another channel", in, in, 1, 0},
		{"by the number ahead", other, out, 0, 1}, {"by the number behind", out, other, 0, 1}, {"another's ahead", other, out, 1, 0}, {"another's behind", out, other, 1, 0},
		{"a new user", less, in, 0, 1}, {"no user any more", in, less, 0, 1}, {"nothing ahead", api.Space{}, in, 0, 1}, {"nothing behind", in, api.Space{}, 0, 1}, {"nothing", api.Space{}, api.Space{}, 0, 0},
	} {
		f := session.Follow("ann", 0)
		f.See(c.before, c.after, events(1, 1, c.c))
		taken(t, c.what, f, 9, events(1, c.want, c.c), true, 0)
	}
}

func TestP20_2Take(t *testing.T) {
	s := town()
	f := session.Follow("ann", 0)
	f.See(s, s, events(1, 5, 0))
	f.See(s, s, nil)
	f.See(s, s, events(6, 4, 0))
	check(t, "how many wait", f.Waiting(), 9)
	for _, most := range []int{0, -1, math.MinInt} {
		taken(t, fmt.Sprint("at most ", most), f, most, nil, true, 9)
	}
	taken(t, "one", f, 1, events(1, 1, 0), true, 8)
	taken(t, "three", f, 3, events(2, 3, 0), true, 5)
	f.See(s, s, events(10, 1, 0))
	taken(t, "none", f, 0, nil, true, 6)
	taken(t, "all that wait", f, 6, events(5, 6, 0), true, 0)
	taken(t, "there are none", f, 6, nil, true, 0)
	f.See(s, s, events(11, 2, 0))
	taken(t, "more than wait", f, math.MaxInt, events(11, 2, 0), true, 0)
}

// TestP20_2Full: whoever lets more wait than there is room for is closed, for good.
func TestP20_2Full(t *testing.T) {
	s := town()
	closed := func(what string, f *session.Feed) {
		t.Helper()
		for _, most := range []int{9, 0, -1, 99} {
			check(t, what, f.Waiting(), 0)
			taken(t, what, f, most, nil, false, 0)
			f.See(s, s, events(1000, 3, 0))
		}
	}
	f := session.Follow("ann", 0)
	for i := range 16 {
		f.See(s, s, events(i+1, 1, 0))
		check(t, "they wait", f.Waiting(), i+1)
		taken(t, "it is open", f, 0, nil, true, i+1)
	}
	f.See(s, s, events(17, 1, 1))
	f.See(s, s, events(0, 1, 0))
	check(t, "what isn't ann's, or not behind the place, closes nothing", f.Waiting(), 16)
	f.See(s, s, events(17, 1, 0))
	closed("one more", f)
	f = session.Follow("ann", 0)
	f.See(s, s, events(1, 16, 0))
	taken(t, "as many as there is room for", f, 16, events(1, 16, 0), true, 0)
	f.See(s, s, events(17, 16, 0))
	taken(t, "and again", f, 1, events(17, 1, 0), true, 15)
	f.See(s, s, events(33, 1, 0))
	taken(t, "one went, one came", f, 99, events(18, 16, 0), true, 0)
	f.See(s, s, events(34, 17, 0))
	closed("too many at once", f)
	f = session.Follow("ann", 0)
	f.See(s, s, events(1, 100, 0))
	closed("by far too many", f)
	f = session.Follow("ann", 20)
	f.See(s, s, append(events(1, 20, 0), append(events(21, 20, 1), events(21, 16, 0)...)...))
	taken(t, "only those that wait count", f, 99, events(21, 16, 0), true, 0)
}

func TestP20_3Examples(t *testing.T) {
	cmds := []api.Cmd{addUser("ann"), addChan("ann", "general", 0), addUser("bob"), join("bob", 0), post("ann", 0, "hi")}
	check(t, "bob's", session.Replay(cmds, "bob", 0), []api.Event{event(4, 0, "join bob"), event(5, 0, "post 0 ann hi")})
	check(t, "bob's from 4", session.Replay(cmds, "bob", 4), []api.Event{event(5, 0, "post 0 ann hi")})
	check(t, "ann's", session.Replay(cmds, "ann", 0), session.Replay(cmds, "bob", 0))
}

// day is what happens in a workspace, with the events behind it: its place, channel and text.
var day = []struct {
	c    api.Cmd
	told string
}{
	{addUser("ann"), ""}, {addUser("bob"), ""}, {addChan("ann", "general", 0), ""}, {post("ann", 0, "alone"), "a: 4 0 post 0 ann alone"},
	{join("bob", 0), "ab: 5 0 join bob"}, {post("bob", 0, "hi"), "ab: 6 0 post 1 bob hi"}, {edit("bob", 1, "ho"), "ab: 7 0 edit 1 ho"}, {react("ann", 1, "ok"), "ab: 8 0 react 1 ann ok"}, {react("ann", 1, "ok"), "ab: 9 0 unreact 1 ann ok"}, {read("bob", 0, 1), ""},
	{addChan("bob", "secret", 1), ""}, {post("bob", 1, "psst"), "b: 12 1 post 2 bob psst"}, {post("ann", 1, "psst"), ""}, {leave("bob", 0), "ab: 14 0 leave bob"}, {post("ann", 0, "gone?"), "a: 15 0 post 3 ann gone?"}, {remove("ann", 0), "a: 16 0 delete 0"}, {remove("bob", 1), ""},
	{with("r1", invite("bob", 1, "ann")), "ab: 18 1 join ann"}, {with("r1", invite("bob", 1, "ann")), ""}, {with("12345678901234567", post("ann", 1, "x")), ""}, {post("ann", 1, "thanks"), "ab: 19 1 post 4 ann thanks"}, {addUser("cy"), ""}, {invite("ann", 0, "cy"), "ac: 21 0 join cy"},
	{join("ann", 0), "ac: 22 0 join ann"}, {leave("ann", 0), "ac: 23 0 leave ann"}, {leave("ann", 0), ""}, {invite("cy", 0, "bob"), "bc: 25 0 join bob"}, {leave("cy", 0), "bc: 26 0 leave cy"}, {post("cy", 0, "x"), ""}, {post("bob", 0, "bob's"), "b: 28 0 post 5 bob bob's"}, {leave("bob", 1), "ab: 29 1 leave bob"}, {edit("ann", 4, "alone"), "a: 30 1 edit 4 alone"},
}

// seen are the events of the day that a user saw, from a place on.
func seen(user string, from int) []string {
	l := []string{}
	for _, x := range day {
		who, what, _ := strings.Cut(x.told, ": ")
		pos := 0
		fmt.Sscan(what, &pos)
		if user != "" && strings.Contains(who, user[:1]) && pos > from {
			l = append(l, what)
		}
	}
	return l
}

func TestP20_3Day(t *testing.T) {
	var cmds []api.Cmd
	for _, x := range day {
		cmds = append(cmds, x.c)
	}
	for _, user := range []string{"ann", "bob", "cy", "dan", ""} {
		for from := -1; from < 33; from++ {
			got := []string{}
			for _, e := range session.Replay(cmds, user, from) {
				got = append(got, fmt.Sprint(e.Pos, " ", e.Chan, " ", e.Text))
			}
			check(t, fmt.Sprintf("%q from %d", user, from), fmt.Sprintf("%q", got), fmt.Sprintf("%q", seen(user, from)))
		}
		check(t, "from far ahead", session.Replay(cmds, user, math.MinInt), session.Replay(cmds, user, 0))
		check(t, "from far behind", len(session.Replay(cmds, user, math.MaxInt)), 0)
		check(t, "of nothing", len(session.Replay(nil, user, 0)), 0)
		check(t, "of what is refused", len(session.Replay([]api.Cmd{{}, {Kind: 99}, post("ann", 0, "hi"), join("ann", 0)}, user, 0)), 0)
	}
}

// TestP20_3Many: more events than may wait at once.
func TestP20_3Many(t *testing.T) {
	cmds := []api.Cmd{addUser("ann"), addChan("ann", "general", 0)}
	var want []api.Event
	for i := range 100 {
		cmds = append(cmds, post("ann", 0, fmt.Sprint("text ", i)))
		want = append(want, api.Event{Pos: i + 3, Text: fmt.Sprintf("post %d ann text %d", i, i)})
	}
	check(t, "all", session.Replay(cmds, "ann", 0), want)
	check(t, "the last ones", session.Replay(cmds, "ann", 60), want[58:])
}

// roomy copies a list into one with room behind it, in which something stands.
func roomy[T any](l []T, x T) []T {
	m := append(make([]T, 0, len(l)+3), l...)
	fill(m[len(m):], x)
	return m
}

func fill[T any](l []T, x T) {
	for i := range l[:cap(l)] {
		l[:cap(l)][i] = x
	}
}

// TestP20_4Tokens: the key isn't changed, nor the room behind it; the name isn't a piece of the token.
func TestP20_4Tokens(t *testing.T) {
	for _, length := range []int{0, 1, 40, 64, 65, 200} {
		key := roomy([]byte(strings.Repeat("k", length)), 'z')
		was := fmt.Sprint(key[:cap(key)])
		s := issued(t, key, "ann", 5)
		check(t, "the key behind Issue", fmt.Sprint(key[:cap(key)]), was)
		user, e := session.Verify(key, s, 4)
		check(t, "the token", []any{user, e}, []any{"ann", api.OK})
		check(t, "the key behind Verify", fmt.Sprint(key[:cap(key)]), was)
		b := []byte(s)
		user, _ = session.Verify(key, unsafe.String(&b[0], len(b)), 4)
		fill(b, 'z')
		check(t, "the name when the token is written over", user, "ann")
	}
	name := []byte("ann")
	s := issued(t, []byte("k"), unsafe.String(&name[0], len(name)), 5)
	fill(name, 'z')
	check(t, "the token when the name is written over", s, issued(t, []byte("k"), "ann", 5))
}

// spacious is town with room behind its lists.
func spacious() api.Space {
	s := town()
	s.Users = roomy(s.Users, "ann")
	for i := range s.Chans {
		s.Chans[i].Members = roomy(s.Chans[i].Members, 0)
	}
	s.Chans = roomy(s.Chans, api.Chan{Name: "spare", Members: []int{0}})
	return s
}

// whole tells all of a space's users and channels, and what stands in the room behind them.
func whole(s api.Space) string {
	text := fmt.Sprint(s.Users[:cap(s.Users)], s.Chans[:cap(s.Chans)], s)
	for _, x := range s.Chans {
		text += fmt.Sprint(x.Members[:cap(x.Members)])
	}
	return text
}

// TestP20_4Feeds: See changes and keeps nothing of what it is handed; what is taken is in memory of its own.
func TestP20_4Feeds(t *testing.T) {
	before, after := spacious(), spacious()
	wasBefore, wasAfter := whole(before), whole(after)
	l := roomy(events(1, 6, 0), api.Event{Pos: 9, Text: "spare"})
	was := fmt.Sprint(l[:cap(l)])
	name, text := []byte("ann"), []byte("in bytes")
	f := session.Follow(unsafe.String(&name[0], len(name)), 0)
	f.See(before, after, l)
	f.See(before, after, []api.Event{{Pos: 7, Text: unsafe.String(&text[0], len(text))}})
	check(t, "what was handed in", []any{whole(before), whole(after), fmt.Sprint(l[:cap(l)])}, []any{wasBefore, wasAfter, was})
	fill(name, 'z')
	fill(text, 'z')
	fill(l, api.Event{Text: "?"})
	first, _ := f.Take(2)
	second, _ := f.Take(2)
	check(t, "taken", []any{first, second}, []any{events(1, 2, 0), events(3, 2, 0)})
	fill(first, api.Event{Text: "?"})
	check(t, "when another answer is written over", second, events(3, 2, 0))
	fill(second, api.Event{Text: "?"})
	f.See(town(), town(), events(8, 5, 0))
	taken(t, "the others", f, 99, append(events(5, 2, 0), append([]api.Event{event(7, 0, "in bytes")}, events(8, 5, 0)...)...), true, 0)
}

func TestP20_4Replay(t *testing.T) {
	var cmds []api.Cmd
	for _, x := range day {
		cmds = append(cmds, x.c)
	}
	cmds = roomy(cmds, addUser("spare"))
	was := fmt.Sprint(cmds[:cap(cmds)])
	first, second := session.Replay(cmds, "ann", 0), session.Replay(cmds, "ann", 0)
	want := slices.Clone(second)
	fill(first, api.Event{Text: "?"})
	check(t, "what was handed in", fmt.Sprint(cmds[:cap(cmds)]), was)
	check(t, "when another answer is written over", second, want)
	fill(cmds, api.Cmd{})
	check(t, "when the commands are written over", second, want)
}

package space_test

import (
	"fmt"
	"math/rand"
	"regexp"
	"slices"
	"strconv"
	"testing"
	"unicode/utf8"

	"parley/api"
	"parley/space"
)

var aName = regexp.MustCompile(`^[a-z][a-z0-9_]{0,15}$`)

// words is a space that goes by the document's words, one by one, as slowly as they do.
type words struct {
	s api.Space
}

// user answers a name's number, or -1.
func (w *words) user(name string) int {
	for i := len(w.s.Users) - 1; i >= 0; i-- {
		if w.s.Users[i] == name {
			return i
		}
	}
	return -1
}

func (w *words) hasChan(n int) bool {
	return n >= 0 && n < len(w.s.Chans)
}

func (w *words) hasPost(n int) bool {
	return n >= 0 && n < len(w.s.Posts)
}

func (w *words) isMember(c, u int) bool {
	if !w.hasChan(c) {
		return false
	}
	for _, m := range w.s.Chans[c].Members {
		if m == u {
			return true
		}
	}
	return false
}

func (w *words) hasMark(c api.Cmd) bool {
	for _, m := range w.s.Marks {
		if m.Post == c.N && w.s.Users[m.User] == c.User && m.Name == c.A {
			return true
		}
	}
	return false
}

// rule refuses with a code where it applies.
type rule struct {
	code    int
	applies func() bool
}

// rules are those of a kind of command, from left to right.
func (w *words) rules(c api.Cmd) []rule {
	noUser := rule{403, func() bool { return w.user(c.User) < 0 }}
	noName := rule{400, func() bool { return !aName.MatchString(c.A) }}
	noText := rule{400, func() bool { return len(c.A) < 1 || len(c.A) > 24 || !utf8.ValidString(c.A) }}
	noChan := rule{404, func() bool { return !w.hasChan(c.N) }}
	outside := rule{403, func() bool { return !w.isMember(c.N, w.user(c.User)) }}
	noPost := rule{404, func() bool { return !w.hasPost(c.N) || w.s.Posts[c.N].Gone }}
	outsidePost := rule{403, func() bool { return !w.isMember(w.s.Posts[c.N].Chan, w.user(c.User)) }}
	notOwn := rule{403, func() bool { return w.s.Users[w.s.Posts[c.N].User] != c.User }}
	switch c.Kind {
	case 1:
		return []rule{noName, {409, func() bool { return w.user(c.A) >= 0 }}, {507, func() bool { return len(w.s.Users) == 40 }}}
	case 2:
		such := func() bool {
			return slices.ContainsFunc(w.s.Chans, func(x api.Chan) bool { return x.Name == c.A })
		}
		return []rule{noUser, noName, {400, func() bool { return c.N*c.N != c.N }}, {409, such}, {507, func() bool { return len(w.s.Chans) == 40 }}}
	case 3:
		return []rule{noUser, noChan, {403, func() bool { return w.s.Chans[c.N].Closed && outside.applies() }}}
	case 4:
		return []rule{noUser, noChan, outside}
	case 5:
		return []rule{noUser, noChan, outside, {404, func() bool { return w.user(c.A) < 0 }}}
	case 6:
		noParent := func() bool {
			return c.M != -1 && !(w.hasPost(c.M) && w.s.Posts[c.M].Chan == c.N && w.s.Posts[c.M].Parent == -1 && !w.s.Posts[c.M].Gone)
		}
		return []rule{noUser, noChan, outside, noText, {404, noParent}, {507, func() bool { return len(w.s.Posts) == 300 }}}
	case 7:
		return []rule{noUser, noPost, outsidePost, notOwn, noText}
	case 8:
		return []rule{noUser, noPost, outsidePost, notOwn}
	case 9:
		return []rule{noUser, noPost, outsidePost, noName, {507, func() bool { return !w.hasMark(c) && len(w.s.Marks) == 300 }}}
	case 10:
		return []rule{noUser, noChan, outside, {404, func() bool { return !w.hasPost(c.M) || w.s.Posts[c.M].Chan != c.N }}}
	}
	return []rule{noUser, {400, func() bool { return true }}}
}

// change does a command that nothing refuses: the body, the event's channel and text.
func (w *words) change(c api.Cmd) (string, int, string) {
	u := w.user(c.User)
	switch c.Kind {
	case 1:
		w.s.Users = append(w.s.Users, c.A)
		return fmt.Sprint(len(w.s.Users) - 1), 0, ""
	case 2:
		w.s.Chans = append(w.s.Chans, api.Chan{Name: c.A, Closed: c.N == 1, Members: []int{u}})
		return fmt.Sprint(len(w.s.Chans) - 1), 0, ""
	case 3:
		w.enter(c.N, u)
		return "", c.N, "join " + c.User
	case 4:
		var rest []int
		for _, m := range w.s.Chans[c.N].Members {
			if m != u {
				rest = append(rest, m)
			}
		}
		w.s.Chans[c.N].Members = rest
		return "", c.N, "leave " + c.User
	case 5:
		w.enter(c.N, w.user(c.A))
		return "", c.N, "join " + c.A
	case 6:
		w.s.Posts = append(w.s.Posts, api.Post{Chan: c.N, User: u, Parent: c.M, Text: c.A})
		n := fmt.Sprint(len(w.s.Posts) - 1)
		return n, c.N, "post " + n + " " + c.User + " " + c.A
	case 7:
		w.s.Posts[c.N].Text = c.A
		w.s.Posts[c.N].Edits++
		return "", w.s.Posts[c.N].Chan, fmt.Sprintf("edit %d %s", c.N, c.A)
	case 8:
		p := w.s.Posts[c.N]
		w.s.Posts[c.N] = api.Post{Chan: p.Chan, User: p.User, Parent: p.Parent, Edits: p.Edits, Gone: true}
		return "", p.Chan, fmt.Sprintf("delete %d", c.N)
	case 9:
		return w.react(c)
	}
	for i, x := range w.s.Seens {
		if x.User == u && x.Chan == c.N {
			if c.M > x.Upto {
				w.s.Seens[i].Upto = c.M
			}
			return "", 0, ""
		}
	}
	w.s.Seens = append(w.s.Seens, api.Seen{User: u, Chan: c.N, Upto: c.M})
	return "", 0, ""
}

func (w *words) enter(c, u int) {
	if w.isMember(c, u) {
		return
	}
	w.s.Chans[c].Members = append(w.s.Chans[c].Members, u)
	slices.Sort(w.s.Chans[c].Members)
}

func (w *words) react(c api.Cmd) (string, int, string) {
	is := w.hasMark(c)
	var rest []api.Mark
	for _, m := range w.s.Marks {
		if m.Post != c.N || w.s.Users[m.User] != c.User || m.Name != c.A {
			rest = append(rest, m)
		}
	}
	what := fmt.Sprintf("react %d %s %s", c.N, c.User, c.A)
	w.s.Marks = rest
	if is {
		return "0", w.s.Posts[c.N].Chan, "un" + what
	}
	w.s.Marks = append(rest, api.Mark{Post: c.N, User: w.user(c.User), Name: c.A})
	return "1", w.s.Posts[c.N].Chan, what
}

func (w *words) apply(c api.Cmd) (api.Reply, []api.Event) {
	if len(c.Req) > 16 {
		return api.Reply{Code: 400}, nil
	}
	for _, d := range w.s.Done {
		if c.Req != "" && d.Req == c.Req {
			return d.Reply, nil
		}
	}
	w.s.Pos++
	r := api.Reply{Code: 200}
	for _, x := range w.rules(c) {
		if x.applies() {
			r.Code = x.code
			break
		}
	}
	var l []api.Event
	if r.Code == 200 {
		e := api.Event{Pos: w.s.Pos}
		r.Body, e.Chan, e.Text = w.change(c)
		if e.Text != "" {
			l = append(l, e)
		}
	}
	if c.Req != "" {
		w.s.Done = append(w.s.Done, api.Done{Req: c.Req, Reply: r})
		w.s.Done = w.s.Done[max(0, len(w.s.Done)-400):]
	}
	return r, l
}

// same tells whether two spaces are the same.
func same(a, b api.Space) bool {
	chans := func(x, y api.Chan) bool {
		return x.Name == y.Name && x.Closed == y.Closed && slices.Equal(x.Members, y.Members)
	}
	return a.Pos == b.Pos && slices.Equal(a.Users, b.Users) && slices.EqualFunc(a.Chans, b.Chans, chans) && slices.Equal(a.Posts, b.Posts) &&
		slices.Equal(a.Marks, b.Marks) && slices.Equal(a.Seens, b.Seens) && slices.Equal(a.Done, b.Done)
}

// source makes any commands, most of which are in order.
type source struct {
	*rand.Rand
	users, chans int // how many unlike names it gives
	reqs         int // how many unlike requests; 0: none
	kinds        []int
	wrong        int // one of so many things is odd
}

func (r *source) odd() bool {
	return r.Intn(r.wrong) == 0
}

func (r *source) user() string {
	if r.odd() {
		return []string{"", "nobody", "Ann", "u", "u0 ", "user"}[r.Intn(6)]
	}
	return fmt.Sprint("u", r.Intn(r.users))
}

// number is one below a count, more often the latter ones; or one beside it.
func (r *source) number(count int) int {
	switch {
	case r.odd():
		return []int{-1, -2, count, count + 1, 1 << 40, -1 << 63}[r.Intn(6)]
	case r.Intn(3) == 0:
		return max(0, count-1-r.Intn(4))
	}
	return r.Intn(max(1, count))
}

func (r *source) text() string {
	if r.odd() {
		return []string{"", "\xff", "a\xc3", "1234567890123456789012345", "12345678901234567890123é", "\xed\xa0\x80"}[r.Intn(6)]
	}
	return []string{"hi", "hi @u1", "é", " ", "a b", "@u0 @u2", "|\"\n\x00", "123456789012345678901234", "1234567890123456789012é"}[r.Intn(9)]
}

// oddName is no name, and what is one has 16 bytes.
func (r *source) oddName() string {
	return []string{"", "A", "_a", "9a", "a-b", "é", "a234567890123456", "a2345678901234567"}[r.Intn(8)]
}

func (r *source) cmd(s api.Space) api.Cmd {
	c := api.Cmd{Kind: r.kinds[r.Intn(len(r.kinds))], User: r.user(), A: r.text(), N: r.number(len(s.Chans)), M: r.number(len(s.Posts))}
	if r.Intn(8) == 0 {
		c.B = r.text()
	}
	switch c.Kind {
	case space.AddUser, space.Invite:
		c.A = r.user()
	case space.AddChan:
		c.A = fmt.Sprint("c", r.Intn(r.chans))
		if !r.odd() {
			c.N = r.Intn(5) / 4
		}
	case space.Post:
		if r.Intn(2) == 0 {
			c.M = -1
		}
	case space.Edit, space.Delete:
		c.N = r.number(len(s.Posts))
	case space.React:
		c.N = r.number(len(s.Posts))
		c.A = []string{"ok", "no", "ha", "a234567890123456"}[r.Intn(4)]
	}
	if c.Kind < 3 || c.Kind == space.React {
		if r.odd() {
			c.A = r.oddName()
		}
	}
	if r.reqs > 0 && r.Intn(2) == 0 {
		c.Req = "r" + strconv.Itoa(r.Intn(r.reqs))
		if r.odd() {
			c.Req += "234567890123456"[:14+r.Intn(2)]
		}
	}
	return c
}

// sound asks of a space what P17.2 promises.
func sound(s api.Space) bool {
	ok := true
	for _, x := range s.Chans {
		for i, m := range x.Members {
			ok = ok && m >= 0 && m < len(s.Users) && (i == 0 || x.Members[i-1] < m)
		}
	}
	for i, p := range s.Posts {
		ok = ok && p.Chan >= 0 && p.Chan < len(s.Chans) && p.User >= 0 && p.User < len(s.Users) && p.Parent >= -1 && p.Parent < i
		ok = ok && (p.Parent < 0 || s.Posts[p.Parent].Chan == p.Chan && s.Posts[p.Parent].Parent == -1) && p.Gone == (p.Text == "")
	}
	return ok && len(s.Users) <= 40 && len(s.Chans) <= 40 && len(s.Posts) <= 300 && len(s.Marks) <= 300 && len(s.Done) <= 400
}

// run applies any commands, and holds each against the words, and against what P17.2 promises.
func run(t *testing.T, r *source, steps int) map[int]int {
	t.Helper()
	s, w := api.Space{}, &words{}
	codes := map[int]int{}
	for range steps {
		c := r.cmd(s)
		was := space.Clone(s)
		next, reply, l := space.Apply(s, c)
		wantReply, want := w.apply(c)
		codes[100*c.Kind+reply.Code/100]++
		if reply != wantReply || !slices.Equal(l, want) || !same(next, w.s) {
			t.Fatalf("%+v\nof %+v: %+v, %+v\n%+v\nnot %+v, %+v\n%+v", s, c, reply, l, next, wantReply, want, w.s)
		}
		if !same(s, was) || !sound(next) {
			t.Fatalf("%+v: behind it %+v\nahead of it %+v, then %+v", c, next, was, s)
		}
		refused := space.Clone(was)
		refused.Pos, refused.Done = next.Pos, next.Done
		if reply.Code != 200 && !same(next, refused) {
			t.Fatalf("%+v was refused with %d: %+v\nnot %+v", c, reply.Code, next, refused)
		}
		again, replyAgain, l := space.Apply(next, c)
		if c.Req != "" && (!same(again, next) || replyAgain != reply || len(l) > 0) {
			t.Fatalf("%+v again: %+v, not %+v; %+v\n%+v\nnot %+v", c, replyAgain, reply, l, again, next)
		}
		s = next
	}
	return codes
}

var allKinds = []int{1, 2, 3, 3, 4, 5, 6, 6, 6, 6, 7, 7, 8, 9, 9, 9, 10, 10, 0, 11, -1}

// TestP17_1Any: any commands, of few users in few channels and of many.
func TestP17_1Any(t *testing.T) {
	for seed := range int64(300) {
		run(t, &source{Rand: rand.New(rand.NewSource(seed)), users: 4, chans: 3, reqs: 60, kinds: allKinds, wrong: 12}, 120)
	}
	for seed := range int64(60) {
		run(t, &source{Rand: rand.New(rand.NewSource(seed)), users: 2, chans: 1, kinds: []int{1, 2, 3, 4, 5, 6, 6, 7, 8, 9, 9, 10}, wrong: 1000}, 300)
	}
}

// TestP17_1AnyFull: so many commands that each of the limits is met.
func TestP17_1AnyFull(t *testing.T) {
	kinds := append([]int{1, 1, 1, 2, 2, 3, 3, 3, 5, 6, 6, 6, 9, 9, 9, 9, 9, 9, 9}, allKinds...)
	codes := run(t, &source{Rand: rand.New(rand.NewSource(17)), users: 45, chans: 45, reqs: 4000, kinds: kinds, wrong: 40}, 9000)
	for _, k := range []int{space.AddUser, space.AddChan, space.Post, space.React} {
		if codes[100*k+5] == 0 {
			t.Errorf("kind %d never met its limit", k)
		}
	}
	for k := space.AddUser; k <= space.Read; k++ {
		if codes[100*k+2] == 0 || codes[100*k+4] == 0 {
			t.Errorf("kind %d: %d were done, %d refused", k, codes[100*k+2], codes[100*k+4])
		}
	}
}

package derived_test

import (
	"fmt"
	"math/rand"
	"regexp"
	"slices"
	"strings"
	"testing"

	"parley/api"
	"parley/derived"
	"parley/space"
)

// words answers from the workspace alone, each time anew, as the document's words say.
type words struct {
	api.Space
}

func (w words) isMember(u, c int) bool {
	return c >= 0 && c < len(w.Chans) && slices.Contains(w.Chans[c].Members, u)
}

func (w words) unread(u, c int) int {
	if !w.isMember(u, c) {
		return 0
	}
	n := 0
	for i, p := range w.Posts {
		seen := slices.ContainsFunc(w.Seens, func(s api.Seen) bool { return s.User == u && s.Chan == c && i <= s.Upto })
		if p.Chan == c && !p.Gone && p.User != u && !seen {
			n++
		}
	}
	return n
}

var anAt = regexp.MustCompile(`(?:^|[^@a-z0-9_])@([a-z0-9_]*)`)

func (w words) mentions(u int) []int {
	var l []int
	for i, p := range w.Posts {
		if u < 0 || u >= len(w.Users) || p.Gone || !w.isMember(u, p.Chan) {
			continue
		}
		for _, m := range anAt.FindAllStringSubmatch(p.Text, -1) {
			if m[1] == w.Users[u] {
				l = append(l, i)
				break
			}
		}
	}
	return l
}

func (w words) reactions(post int) []derived.Count {
	var names []string
	for _, m := range w.Marks {
		if m.Post == post {
			names = append(names, m.Name)
		}
	}
	slices.Sort(names)
	var l []derived.Count
	for i, name := range names {
		if i == 0 || names[i-1] != name {
			l = append(l, derived.Count{Name: name})
		}
		l[len(l)-1].N++
	}
	return l
}

func (w words) answers(post int) []int {
	var l []int
	for i, p := range w.Posts {
		if post >= 0 && p.Parent == post && !p.Gone {
			l = append(l, i)
		}
	}
	return l
}

func (w words) line(u int) string {
	text := ""
	for c, x := range w.Chans {
		if w.isMember(u, c) {
			text += " " + x.Name
			for range w.unread(u, c) {
				text += "*"
			}
		}
	}
	return strings.TrimPrefix(text, " ")
}

// agrees holds all that an Index answers against the words, outside the numbers that there are, too.
func agrees(t *testing.T, what string, x *derived.Index, s api.Space) {
	t.Helper()
	w := words{s}
	if got := x.Space(); fmt.Sprint(got) != fmt.Sprint(s) {
		t.Fatalf("%s: the workspace: %+v\nnot %+v", what, got, s)
	}
	for _, u := range numbers(len(s.Users)) {
		for _, c := range numbers(len(s.Chans)) {
			if got, want := x.Unread(u, c), w.unread(u, c); got != want {
				t.Fatalf("%s: user %d, channel %d: %d unread, not %d\n%+v", what, u, c, got, want, s)
			}
		}
		if got, want := x.Mentions(u), w.mentions(u); !slices.Equal(got, want) {
			t.Fatalf("%s: user %d: mentions %v, not %v\n%+v", what, u, got, want, s)
		}
		if got, want := x.Line(u), w.line(u); got != want {
			t.Fatalf("%s: user %d: %q, not %q\n%+v", what, u, got, want, s)
		}
	}
	for _, p := range numbers(len(s.Posts)) {
		if got, want := x.Reactions(p), w.reactions(p); !slices.Equal(got, want) {
			t.Fatalf("%s: post %d: reactions %v, not %v\n%+v", what, p, got, want, s)
		}
		if got, want := x.Answers(p), w.answers(p); !slices.Equal(got, want) {
			t.Fatalf("%s: post %d: answers %v, not %v\n%+v", what, p, got, want, s)
		}
	}
}

// numbers are those below n, and some beside them.
func numbers(n int) []int {
	l := []int{-1 << 63, -2, -1, n, n + 1, 1<<63 - 1}
	for i := range n {
		l = append(l, i)
	}
	return l
}

// source makes any commands, most of which are in order.
type source struct {
	*rand.Rand
	users, chans, reqs int // how many unlike names it gives
}

func (r *source) user() string {
	return fmt.Sprint("u", r.Intn(r.users))
}

// number is one below a count, more often the latter ones, seldom one beside it.
func (r *source) number(count int) int {
	switch r.Intn(24) {
	case 0:
		return []int{-1, -2, count, count + 1}[r.Intn(4)]
	case 1, 2, 3, 4, 5, 6, 7, 8:
		return max(0, count-1-r.Intn(4))
	}
	return r.Intn(max(1, count))
}

func (r *source) text() string {
	return []string{"hi", "@u0", "@u1 @u2", "x @u1, @u1", "@u2@u0 @u9", "mail u1@u0", "@@u1 é@u2", "", "\xff", "@u3 1234567890123456789012"}[r.Intn(10)]
}

var kinds = []int{1, 1, 2, 3, 3, 3, 4, 5, 6, 6, 6, 6, 6, 7, 7, 8, 8, 9, 9, 9, 10, 10, 11}

func (r *source) cmd(s api.Space) api.Cmd {
	c := api.Cmd{Kind: kinds[r.Intn(len(kinds))], User: r.user(), A: r.text(), N: r.number(len(s.Chans)), M: r.number(len(s.Posts))}
	switch c.Kind {
	case space.AddUser, space.Invite:
		c.A = r.user()
	case space.AddChan:
		c.A, c.N = fmt.Sprint("c", r.Intn(r.chans)), r.Intn(4)/3
	case space.Post:
		if r.Intn(3) > 0 {
			c.M = -1
		}
	case space.Edit, space.Delete, space.React:
		c.N = r.number(len(s.Posts))
	}
	if c.Kind == space.React {
		c.A = []string{"ok", "no", "ha", "a", "OK"}[r.Intn(5)]
	}
	if r.Intn(3) == 0 {
		c.Req = fmt.Sprint("r", r.Intn(r.reqs))
	}
	return c
}

// run does any commands, and holds each against space.Apply, and what is counted against the words.
func run(t *testing.T, r *source, steps, every int) {
	t.Helper()
	x, s := derived.New(), api.Space{}
	for i := range steps {
		c := r.cmd(s)
		next, reply, events := space.Apply(s, c)
		got, list := x.Do(c)
		if got != reply || !slices.Equal(list, events) {
			t.Fatalf("%+v of %+v: %+v, %+v, not %+v, %+v", c, s, got, list, reply, events)
		}
		s = next
		if i%every == 0 {
			agrees(t, fmt.Sprintf("behind %+v", c), x, s)
		}
	}
	agrees(t, "at last", x, s)
}

// TestP18_2Any: any commands, of few users in few channels, so that all meet all.
func TestP18_2Any(t *testing.T) {
	for seed := range int64(400) {
		run(t, &source{rand.New(rand.NewSource(seed)), 4, 3, 40}, 150, 1)
	}
}

// TestP18_2AnyFull: so many commands that the limits are met.
func TestP18_2AnyFull(t *testing.T) {
	for seed := range int64(2) {
		run(t, &source{rand.New(rand.NewSource(seed)), 45, 45, 3000}, 4000, 40)
	}
}

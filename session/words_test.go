package session_test

import (
	"crypto/hmac"
	"crypto/sha1"
	"encoding/hex"
	"fmt"
	"math/rand"
	"regexp"
	"slices"
	"strconv"
	"strings"
	"testing"

	"parley/api"
	"parley/session"
	"parley/space"
)

// marked is a text with its mark behind it.
func marked(key, said string) string {
	h := hmac.New(sha1.New, []byte(key))
	h.Write([]byte(said))
	return said + "." + hex.EncodeToString(h.Sum(nil))
}

var aToken = regexp.MustCompile(`^([a-z][a-z0-9_]{0,15})\.(0|[1-9][0-9]*)\.([^.]*)$`)

// whose is Verify by the document's words.
func whose(key, token string, now int) (string, api.Errno) {
	m := aToken.FindStringSubmatch(token)
	if m == nil {
		return "", api.ErrText
	}
	until, err := strconv.ParseInt(m[2], 10, 64)
	switch {
	case err != nil:
		return "", api.ErrText
	case marked(key, m[1]+"."+m[2]) != token:
		return "", api.ErrAuth
	case int64(now) >= until:
		return "", api.ErrOld
	}
	return m[1], api.OK
}

// TestP20_1Any: any tokens, most of them nearly right, against the words.
func TestP20_1Any(t *testing.T) {
	r := rand.New(rand.NewSource(201))
	pick := func(l ...string) string { return l[r.Intn(len(l))] }
	got := map[api.Errno]int{}
	for range 30000 {
		key := pick("", "k", "key", strings.Repeat("k", 64), strings.Repeat("k", 65))
		said := pick("ann", "b", "a_9", "Ann", "", "a2345678901234567") + pick(".", ".", ".", ".", "") + pick("0", "1", "5", "05", "-1", "+5", "10", "9223372036854775807", "9223372036854775808", "")
		token := marked(key, said)
		switch i := r.Intn(len(token)); r.Intn(6) {
		case 0:
			token = token[:i] + pick("", "0", ".", "a", "A", "\xff") + token[i+1:]
		case 1:
			token = token[:i] + pick("0", ".", "a", "é") + token[i:]
		case 2:
			token = token[:i]
		}
		now := r.Intn(12) - 1
		u, e := session.Verify([]byte(key), token, now)
		wantUser, want := whose(key, token, now)
		if u != wantUser || e != want {
			t.Fatalf("%q at %d with %q: %q, error %d, not %q, %d", token, now, key, u, e, wantUser, want)
		}
		got[e]++
	}
	for _, e := range []api.Errno{api.OK, api.ErrText, api.ErrAuth, api.ErrOld} {
		if got[e] < 1000 {
			t.Errorf("error %d came %d times", e, got[e])
		}
	}
}

// source makes any commands of few users in few channels, most of which are in order.
type source struct {
	*rand.Rand
}

func (r *source) user() string {
	return fmt.Sprint("u", r.Intn(4))
}

func (r *source) cmd(s api.Space) api.Cmd {
	kinds := []int{1, 2, 3, 3, 3, 4, 4, 5, 5, 6, 6, 6, 6, 7, 8, 9, 9, 10, 11}
	c := api.Cmd{Kind: kinds[r.Intn(len(kinds))], User: r.user(), A: []string{"hi", "@u1", "é", ""}[r.Intn(4)], N: r.Intn(len(s.Chans)+2) - 1, M: -1}
	switch c.Kind {
	case space.AddUser, space.Invite:
		c.A = r.user()
	case space.AddChan:
		c.A, c.N = fmt.Sprint("c", r.Intn(4)), r.Intn(4)/3
	case space.Edit, space.Delete, space.React:
		c.N = r.Intn(len(s.Posts) + 1)
	}
	if c.Kind == space.React {
		c.A = "ok"
	}
	if r.Intn(3) == 0 {
		c.Req = fmt.Sprint("r", r.Intn(30))
	}
	return c
}

// isIn tells by the names whether a user is a member of a channel.
func isIn(s api.Space, user string, c int) bool {
	for _, m := range s.Chans[c].Members {
		if s.Users[m] == user {
			return true
		}
	}
	return false
}

// happened is a command that was applied, and what was told of it.
type happened struct {
	before, after api.Space
	events        []api.Event
}

// past are any commands, and what came of them.
func past(r *source, steps int) ([]api.Cmd, []happened) {
	var cmds []api.Cmd
	var l []happened
	var s api.Space
	for range steps {
		c := r.cmd(s)
		after, _, events := space.Apply(s, c)
		cmds = append(cmds, c)
		l = append(l, happened{s, after, events})
		s = after
	}
	return cmds, l
}

// ofUser are the events that a user should be sent, from a place on.
func ofUser(l []happened, user string, from int) []api.Event {
	var want []api.Event
	for _, h := range l {
		for _, e := range h.events {
			was := e.Chan < len(h.before.Chans) && isIn(h.before, user, e.Chan)
			if e.Pos > from && (was || isIn(h.after, user, e.Chan)) {
				want = append(want, e)
			}
		}
	}
	return want
}

// TestP20_3Any: any commands: just the events of the user's channels, each once, in order.
func TestP20_3Any(t *testing.T) {
	for seed := range int64(200) {
		cmds, l := past(&source{rand.New(rand.NewSource(seed))}, 150)
		for i := range 5 {
			user, from := fmt.Sprint("u", i), int(seed)%20*8-8
			got, want := session.Replay(cmds, user, from), ofUser(l, user, from)
			if !slices.Equal(got, want) {
				t.Fatalf("%s from %d: %+v\nnot %+v", user, from, got, want)
			}
			if other := session.Replay(slices.Clone(cmds), user, from); !slices.Equal(got, other) {
				t.Fatalf("%s from %d again: %+v\nnot %+v", user, from, other, got)
			}
		}
	}
}

// follow lets a feed see what happened, and takes from it now and then; it holds how many wait, and answers what was taken, and whether the feed is closed.
func follow(t *testing.T, r *source, l []happened, user string, from, seldom int) ([]api.Event, bool) {
	t.Helper()
	f := session.Follow(user, from)
	var got, waiting []api.Event
	closed := false
	for i := range l {
		f.See(l[i].before, l[i].after, l[i].events)
		waiting = append(waiting, ofUser(l[i:i+1], user, from)...)
		if closed = closed || len(waiting) > 16; closed {
			waiting = nil
		}
		if f.Waiting() != len(waiting) {
			t.Fatalf("%s from %d: %d wait, not %d", user, from, f.Waiting(), len(waiting))
		}
		if r.Intn(seldom) > 0 {
			continue
		}
		most := r.Intn(25) - 2
		n := max(0, min(most, len(waiting)))
		taken, ok := f.Take(most)
		if ok == closed || !slices.Equal(taken, waiting[:n]) {
			t.Fatalf("%s from %d, %d taken: %+v, %v\nnot %+v, %v", user, from, most, taken, ok, waiting[:n], !closed)
		}
		waiting = waiting[n:]
		got = append(got, taken...)
	}
	return got, closed
}

// TestP20_2Any: what is taken, however it is taken, is a beginning of what Replay answers.
func TestP20_2Any(t *testing.T) {
	shut, open := 0, 0
	for seed := range int64(100) {
		r := &source{rand.New(rand.NewSource(seed))}
		cmds, l := past(r, 300)
		for i := range 12 {
			user, from := fmt.Sprint("u", i%5), []int{-1, 0, 30, 120}[i%4]
			got, closed := follow(t, r, l, user, from, []int{1, 4, 30, 100}[r.Intn(4)])
			all := session.Replay(cmds, user, from)
			if len(got) > len(all) || !slices.Equal(got, all[:len(got)]) {
				t.Fatalf("%s from %d: %+v\nis no beginning of %+v", user, from, got, all)
			}
			if closed {
				shut++
			} else if len(all) > 16 {
				open++
			}
		}
	}
	if shut < 50 || open < 50 {
		t.Errorf("%d feeds were closed, %d kept up", shut, open)
	}
}

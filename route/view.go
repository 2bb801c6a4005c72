package route

import (
	"parley/api"
	"parley/http"
	"parley/index"
	"parley/session"
	"parley/space"
)

const (
	maxTick = 1 << 40 // the last one at which somebody may log in
	noUser  = -1
	boost   = 1 // of a search
)

// View: the answer to what asks for no change; key is that of the tokens, now the tick.
func View(s api.Space, a Action, key []byte, now int) http.Answer {
	u := space.User(s, a.User)
	switch {
	case a.Kind == Refuse:
		return Error(a.Code)
	case a.Kind == Login:
		return login(a.User, u, key, now)
	case u == noUser:
		return Error(int(forbidden))
	}
	switch a.Kind {
	case Channels:
		return channels(s, u)
	case Posts:
		return posts(s, u, a.N)
	case Search:
		return found(s, u, a.Word)
	}
	return Error(int(wrong))
}

// login gives a token.
func login(name string, u int, key []byte, now int) http.Answer {
	if u == noUser || now < 0 || now > maxTick {
		return Error(int(absent))
	}
	token, _ := session.Issue(key, name, now+Good)
	return answer(good, "token", text(token))
}

// channels shows the user's channels.
func channels(s api.Space, u int) http.Answer {
	var l []api.J
	for c := range s.Chans {
		if space.Member(s, c, u) {
			l = append(l, text(s.Chans[c].Name))
		}
	}
	return answer(good, "channels", list(l))
}

// posts shows a channel's last posts.
func posts(s api.Space, u, c int) http.Answer {
	if c < 0 || c >= len(s.Chans) {
		return Error(int(absent))
	}
	if !space.Member(s, c, u) {
		return Error(int(forbidden))
	}
	var l []api.J
	for i, p := range s.Posts {
		if p.Chan == c && !p.Gone {
			l = append(l, list([]api.J{number(i), text(name(s, p.User)), text(p.Text), number(p.Parent)}))
		}
	}
	return answer(good, "posts", list(l[max(0, len(l)-MaxView):]))
}

// name answers a user's name; empty, if there is none.
func name(s api.Space, u int) string {
	if u < 0 || u >= len(s.Users) {
		return ""
	}
	return s.Users[u]
}

// found shows which posts of the user's channels have the words. The other channels' posts aren't in the index, so that they don't weigh either.
func found(s api.Space, u int, words string) http.Answer {
	x := index.New()
	for i, p := range s.Posts {
		if !p.Gone && space.Member(s, p.Chan, u) {
			x.Put(i, p.Text)
		}
	}
	hits, e := x.Find(words, boost, MaxView)
	if e != api.OK {
		return Error(int(wrong))
	}
	var l []api.J
	for _, h := range hits {
		l = append(l, number(h.Post))
	}
	return answer(good, "found", list(l))
}

package route

import (
	"strings"

	"parley/api"
	"parley/http"
	"parley/json"
	"parley/session"
	"parley/space"
)

const bearer = "Bearer " // stands ahead of a token

// noPost is the M of a command that names no post.
const noPost = -1

// must refuses the request with a code, unless it is right.
func must(right bool, code refusal) {
	if !right {
		panic(code)
	}
}

// owner answers whose token the request has.
func owner(r http.Request, key []byte, now int) string {
	token, ok := strings.CutPrefix(http.Value(r, "authorization"), bearer)
	must(ok, nobody)
	user, e := session.Verify(key, token, now)
	must(e == api.OK, nobody)
	return user
}

// fields answers what a body has, by its keys.
func fields(form []field, body string) map[string]api.J {
	if len(form) == 0 {
		must(body == "", wrong)
		return nil
	}
	j, e := json.Parse(body)
	must(e == api.OK && j.Kind == json.Object, wrong)
	f := map[string]api.J{}
	for i, k := range j.Keys {
		f[k] = j.List[i]
	}
	known := 0
	for _, x := range form {
		v, is := f[x.key]
		if is {
			known++
		}
		must(is && x.sort.takes(v.Kind) || !is && x.may, wrong)
	}
	must(known == len(f), wrong)
	return f
}

// request answers the request's own name.
func request(r http.Request) string {
	name := http.Value(r, "x-request")
	must(len(name) <= space.MaxReq, wrong)
	return name
}

// command is the command that a row asks for.
func command(w row, at choice, user string, f map[string]api.J, req string) api.Cmd {
	c := api.Cmd{Req: req, User: user, Kind: w.cmd, N: at.n, M: noPost}
	for _, x := range w.form {
		v, is := f[x.key]
		switch {
		case !is:
		case x.sort == aText:
			c.A = v.Str
		case x.sort == aNumber:
			c.M = v.Num
		case v.Kind == json.True:
			c.N = 1
		}
	}
	return c
}

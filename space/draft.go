package space

import (
	"slices"
	"strconv"
	"strings"

	"parley/api"
	"parley/utf"
)

// done is the reply's code of a command that is done.
const done = 200

// refusal is the code with which a command is refused: a draft gives up by a panic with it.
type refusal int

const (
	wrong     refusal = 400
	forbidden refusal = 403
	absent    refusal = 404
	taken     refusal = 409
	full      refusal = 507
)

// nobody stands for a user's number, where there is none; noPost for a post's.
const (
	nobody = -1
	noPost = -1
)

// draft is a space while a command is tried on it, in memory of its own, and what is told of it. All that may refuse a command is asked ahead of its first change, so that nothing needs to be taken back.
type draft struct {
	api.Space
	c    api.Cmd
	user int // who the command is by
	told []api.Event
}

// must refuses the command with a code, unless it is right.
func must(right bool, code refusal) {
	if !right {
		panic(code)
	}
}

// answered answers what the command's request was answered, if it was.
func (d *draft) answered() (api.Reply, bool) {
	i := slices.IndexFunc(d.Done, func(x api.Done) bool { return x.Req == d.c.Req })
	if d.c.Req == "" || i < 0 {
		return api.Reply{}, false
	}
	return d.Done[i].Reply, true
}

// note remembers what the command's request is answered.
func (d *draft) note(r api.Reply) {
	if d.c.Req == "" {
		return
	}
	if len(d.Done) >= MaxDone {
		d.Done = slices.Delete(d.Done, 0, 1)
	}
	d.Done = append(d.Done, api.Done{Req: d.c.Req, Reply: r})
}

// try does the command, or answers the code with which it is refused.
func (d *draft) try() (r api.Reply, l []api.Event) {
	defer func() {
		switch p := recover().(type) {
		case nil:
		case refusal:
			r, l = api.Reply{Code: int(p)}, nil
		default:
			panic(p)
		}
	}()
	body := d.do()
	return api.Reply{Code: done, Body: body}, d.told
}

// do does the command, and answers the reply's body.
func (d *draft) do() string {
	if d.c.Kind == AddUser {
		return d.addUser()
	}
	d.user = User(d.Space, d.c.User)
	must(d.user != nobody, forbidden)
	switch d.c.Kind {
	case AddChan:
		return d.addChan()
	case Join:
		d.join()
	case Leave:
		d.leave()
	case Invite:
		d.invite()
	case Post:
		return d.addPost()
	case Edit:
		d.edit()
	case Delete:
		d.remove()
	case React:
		return d.react()
	case Read:
		d.read()
	default:
		panic(wrong)
	}
	return ""
}

func (d *draft) addUser() string {
	must(utf.Name(d.c.A), wrong)
	must(User(d.Space, d.c.A) == nobody, taken)
	must(len(d.Users) < MaxUsers, full)
	d.Users = append(d.Users, d.c.A)
	return strconv.Itoa(len(d.Users) - 1)
}

func (d *draft) addChan() string {
	must(utf.Name(d.c.A) && (d.c.N == 0 || d.c.N == 1), wrong)
	must(!slices.ContainsFunc(d.Chans, func(x api.Chan) bool { return x.Name == d.c.A }), taken)
	must(len(d.Chans) < MaxChans, full)
	d.Chans = append(d.Chans, api.Chan{Name: d.c.A, Closed: d.c.N == 1, Members: []int{d.user}})
	return strconv.Itoa(len(d.Chans) - 1)
}

func (d *draft) join() {
	ch := d.channel()
	must(!ch.Closed || d.member(d.c.N), forbidden)
	d.enter(d.user)
}

func (d *draft) leave() {
	ch := d.ownChannel()
	ch.Members = slices.DeleteFunc(ch.Members, func(u int) bool { return u == d.user })
	d.tell(d.c.N, "leave", d.c.User)
}

func (d *draft) invite() {
	d.ownChannel()
	u := User(d.Space, d.c.A)
	must(u != nobody, absent)
	d.enter(u)
}

func (d *draft) addPost() string {
	d.ownChannel()
	must(isText(d.c.A), wrong)
	must(d.c.M == noPost || d.canAnswer(d.c.M), absent)
	must(len(d.Posts) < MaxPosts, full)
	number := strconv.Itoa(len(d.Posts))
	d.Posts = append(d.Posts, api.Post{Chan: d.c.N, User: d.user, Parent: d.c.M, Text: d.c.A})
	d.tell(d.c.N, "post", number, d.c.User, d.c.A)
	return number
}

func (d *draft) edit() {
	p := d.ownPost()
	must(isText(d.c.A), wrong)
	p.Text = d.c.A
	p.Edits++
	d.tell(p.Chan, "edit", strconv.Itoa(d.c.N), d.c.A)
}

func (d *draft) remove() {
	p := d.ownPost()
	p.Gone, p.Text = true, ""
	d.tell(p.Chan, "delete", strconv.Itoa(d.c.N))
}

// react takes the user's reaction away, if it is there, and puts it, if it isn't.
func (d *draft) react() string {
	p := d.post()
	must(utf.Name(d.c.A), wrong)
	m := api.Mark{Post: d.c.N, User: d.user, Name: d.c.A}
	if i := slices.Index(d.Marks, m); i >= 0 {
		d.Marks = slices.Delete(d.Marks, i, i+1)
		d.tell(p.Chan, "unreact", strconv.Itoa(d.c.N), d.c.User, d.c.A)
		return "0"
	}
	must(len(d.Marks) < MaxMarks, full)
	d.Marks = append(d.Marks, m)
	d.tell(p.Chan, "react", strconv.Itoa(d.c.N), d.c.User, d.c.A)
	return "1"
}

func (d *draft) read() {
	d.ownChannel()
	must(d.stands(d.c.M), absent)
	for i := range d.Seens {
		if x := &d.Seens[i]; x.User == d.user && x.Chan == d.c.N {
			x.Upto = max(x.Upto, d.c.M)
			return
		}
	}
	d.Seens = append(d.Seens, api.Seen{User: d.user, Chan: d.c.N, Upto: d.c.M})
}

// channel answers channel N.
func (d *draft) channel() *api.Chan {
	must(d.c.N >= 0 && d.c.N < len(d.Chans), absent)
	return &d.Chans[d.c.N]
}

// ownChannel answers channel N, of which the user must be a member.
func (d *draft) ownChannel() *api.Chan {
	ch := d.channel()
	must(d.member(d.c.N), forbidden)
	return ch
}

// post answers post N, of whose channel the user must be a member.
func (d *draft) post() *api.Post {
	must(d.isPost(d.c.N) && !d.Posts[d.c.N].Gone, absent)
	p := &d.Posts[d.c.N]
	must(d.member(p.Chan), forbidden)
	return p
}

// ownPost answers post N, which must be the user's.
func (d *draft) ownPost() *api.Post {
	p := d.post()
	must(p.User == d.user, forbidden)
	return p
}

func (d *draft) member(c int) bool {
	return Member(d.Space, c, d.user)
}

func (d *draft) isPost(n int) bool {
	return n >= 0 && n < len(d.Posts)
}

// stands tells whether there is a post n in channel N, gone or not.
func (d *draft) stands(n int) bool {
	return d.isPost(n) && d.Posts[n].Chan == d.c.N
}

// canAnswer tells whether a post of channel N may answer post n: threads have no threads.
func (d *draft) canAnswer(n int) bool {
	return d.stands(n) && d.Posts[n].Parent == noPost && !d.Posts[n].Gone
}

// isText tells whether s may be a post's text.
func isText(s string) bool {
	return s != "" && len(s) <= api.MaxBody && utf.Valid(s)
}

// enter makes user u a member of channel N; who is one stays one.
func (d *draft) enter(u int) {
	ch := &d.Chans[d.c.N]
	if i, is := slices.BinarySearch(ch.Members, u); !is {
		ch.Members = slices.Insert(ch.Members, i, u)
	}
	d.tell(d.c.N, "join", d.Users[u])
}

// tell tells the members of channel c an event.
func (d *draft) tell(c int, words ...string) {
	d.told = append(d.told, api.Event{Pos: d.Pos, Chan: c, Text: strings.Join(words, " ")})
}

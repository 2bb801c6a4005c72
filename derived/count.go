package derived

import (
	"slices"

	"parley/api"
	"parley/space"
	"parley/utf"
)

// done is the reply's code of a command that is done.
const done = 200

// unseen stands for the post up to which a channel is read, where nothing of it is.
const unseen = -1

// count takes a command that has been done into the counts.
func (x *Index) count(before api.Space, c api.Cmd) {
	u := space.User(x.space, c.User)
	switch c.Kind {
	case space.Join, space.Read:
		x.recount(u, c.N)
	case space.Invite:
		x.recount(space.User(x.space, c.A), c.N)
	case space.Leave:
		delete(x.unread, [2]int{u, c.N})
	case space.Post:
		x.come(len(x.space.Posts) - 1)
	case space.Edit:
		x.unmention(c.N, before.Posts[c.N].Text)
		x.mention(c.N, c.A)
	case space.Delete:
		x.leave(c.N, before.Posts[c.N].Text)
	case space.React:
		x.react(c.N, c.A, len(x.space.Marks)-len(before.Marks))
	}
}

// recount counts what is unread anew, where many posts count otherwise at once.
func (x *Index) recount(u, c int) {
	upto, n := x.upto(u, c), 0
	for i, p := range x.space.Posts {
		if p.Chan == c && !p.Gone && p.User != u && i > upto {
			n++
		}
	}
	x.unread[[2]int{u, c}] = n
}

// upto answers the post up to which a user has read a channel.
func (x *Index) upto(u, c int) int {
	for _, seen := range x.space.Seens {
		if seen.User == u && seen.Chan == c {
			return seen.Upto
		}
	}
	return unseen
}

// come counts a new post.
func (x *Index) come(n int) {
	p := x.space.Posts[n]
	x.shift(n, 1)
	x.mention(n, p.Text)
	if p.Parent >= 0 {
		put(x.answers, p.Parent, n)
	}
}

// leave counts a post no more; its text is the one that it had.
func (x *Index) leave(n int, text string) {
	x.shift(n, -1)
	x.unmention(n, text)
	take(x.answers, x.space.Posts[n].Parent, n)
}

// shift makes what is unread more, or less, for each member who hasn't read post n.
func (x *Index) shift(n, by int) {
	p := x.space.Posts[n]
	for _, u := range x.space.Chans[p.Chan].Members {
		if u != p.User && n > x.upto(u, p.Chan) {
			x.unread[[2]int{u, p.Chan}] += by
		}
	}
}

func (x *Index) mention(n int, text string) {
	for _, name := range utf.Mentions(text) {
		put(x.mentions, name, n)
	}
}

func (x *Index) unmention(n int, text string) {
	for _, name := range utf.Mentions(text) {
		take(x.mentions, name, n)
	}
}

// react changes how many of a reaction a post has; of none nothing is kept.
func (x *Index) react(n int, name string, by int) {
	counts := x.reactions[n]
	if counts == nil {
		counts = map[string]int{}
		x.reactions[n] = counts
	}
	counts[name] += by
	if counts[name] == 0 {
		delete(counts, name)
	}
	if len(counts) == 0 {
		delete(x.reactions, n)
	}
}

// put puts n into the rising list of a key.
func put[K comparable](lists map[K][]int, k K, n int) {
	i, _ := slices.BinarySearch(lists[k], n)
	lists[k] = slices.Insert(lists[k], i, n)
}

// take takes n out of the rising list of a key, if it is there; of an empty list nothing is kept.
func take[K comparable](lists map[K][]int, k K, n int) {
	l := lists[k]
	if i, is := slices.BinarySearch(l, n); is {
		l = slices.Delete(l, i, i+1)
	}
	lists[k] = l
	if len(l) == 0 {
		delete(lists, k)
	}
}

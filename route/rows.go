package route

import (
	"slices"
	"strconv"
	"strings"

	"parley/http"
	"parley/json"
	"parley/space"
)

// What stands in a row's path for the parts that requests choose.
const (
	numberPart = "N"
	wordPart   = "WORD"
)

const maxNumber = 999999 // the greatest one of six digits

// row says what a request asks for.
type row struct {
	method string
	path   string
	open   bool // it wants no token
	kind   int  // of the action
	cmd    int  // the kind of its command
	form   []field
}

// field is a key of a body. What it has goes the same way in all commands: a text is A, a number M, True the 1 of N.
type field struct {
	key  string
	sort sort
	may  bool // it may be wanting
}

// sort is what a field may have.
type sort int

const (
	aText sort = iota
	aNumber
	aBool
)

// takes tells whether a field of the sort may have a value of that kind.
func (s sort) takes(kind int) bool {
	switch s {
	case aText:
		return kind == json.String
	case aNumber:
		return kind == json.Number
	}
	return kind == json.True || kind == json.False
}

// rows is the document's table, in its order.
func rows() []row {
	name := field{key: "name", sort: aText}
	words := field{key: "text", sort: aText}
	return []row{
		{method: "POST", path: "/users", open: true, kind: Command, cmd: space.AddUser, form: []field{name}},
		{method: "POST", path: "/login", open: true, kind: Login, form: []field{name}},
		{method: "POST", path: "/channels", kind: Command, cmd: space.AddChan, form: []field{name, {key: "closed", sort: aBool, may: true}}},
		{method: "GET", path: "/channels", kind: Channels},
		{method: "POST", path: "/channels/N/join", kind: Command, cmd: space.Join},
		{method: "POST", path: "/channels/N/leave", kind: Command, cmd: space.Leave},
		{method: "POST", path: "/channels/N/invite", kind: Command, cmd: space.Invite, form: []field{{key: "user", sort: aText}}},
		{method: "GET", path: "/channels/N/posts", kind: Posts},
		{method: "POST", path: "/channels/N/posts", kind: Command, cmd: space.Post, form: []field{words, {key: "parent", sort: aNumber, may: true}}},
		{method: "POST", path: "/channels/N/read", kind: Command, cmd: space.Read, form: []field{{key: "post", sort: aNumber}}},
		{method: "POST", path: "/posts/N/edit", kind: Command, cmd: space.Edit, form: []field{words}},
		{method: "POST", path: "/posts/N/react", kind: Command, cmd: space.React, form: []field{name}},
		{method: "DELETE", path: "/posts/N", kind: Command, cmd: space.Delete},
		{method: "GET", path: "/search/WORD", kind: Search},
		{method: "GET", path: "/events/N", kind: Events},
	}
}

// rowsOf answers the rows that have the target.
func rowsOf(target string) []row {
	parts := strings.Split(target, "/")
	return slices.DeleteFunc(rows(), func(w row) bool {
		_, ok := w.match(parts)
		return !ok
	})
}

// find answers the row of a request, and what its target chooses.
func find(r http.Request) (row, choice) {
	l := rowsOf(r.Target)
	must(len(l) > 0, absent)
	i := slices.IndexFunc(l, func(w row) bool { return w.method == r.Method })
	must(i >= 0, noMethod)
	at, _ := l[i].match(strings.Split(r.Target, "/"))
	return l[i], at
}

// choice is what a target says where its row leaves it open.
type choice struct {
	n    int
	word string
}

// match answers what a target, cut in parts, chooses; false: it isn't the row's.
func (w row) match(parts []string) (choice, bool) {
	var at choice
	path := strings.Split(w.path, "/")
	if len(path) != len(parts) {
		return choice{}, false
	}
	for i, p := range path {
		ok := parts[i] == p
		switch p {
		case numberPart:
			at.n, ok = decimal(parts[i])
			ok = ok && at.n >= 0 && at.n <= maxNumber
		case wordPart:
			at.word, ok = strings.Clone(parts[i]), parts[i] != ""
		}
		if !ok {
			return choice{}, false
		}
	}
	return at, true
}

// decimal answers the number of a text; false: a number is written in another way.
func decimal(s string) (int, bool) {
	n, err := strconv.Atoi(s)
	return n, err == nil && strconv.Itoa(n) == s // Atoi takes signs and noughts ahead, too
}

package route

import (
	"strconv"
	"strings"

	"parley/api"
)

const (
	sep     = "|"
	inParts = 6 // a packed command has so many
)

// Pack: a command as a text for a log; ErrBig: it is too long.
func Pack(c api.Cmd) (string, api.Errno) {
	s := strings.Join([]string{strconv.Itoa(c.Kind), strconv.Itoa(c.N), strconv.Itoa(c.M), c.Req, c.User, c.A}, sep)
	if len(s) > api.MaxData {
		return "", api.ErrBig
	}
	if back, e := Unpack(s); e != api.OK || back != c {
		return "", api.ErrForm
	}
	return s, api.OK
}

// Unpack: the command of a text. What it says at last may have the mark between two parts in it.
func Unpack(s string) (api.Cmd, api.Errno) {
	l := strings.SplitN(strings.Clone(s), sep, inParts)
	if len(l) < inParts {
		return api.Cmd{}, api.ErrText
	}
	c := api.Cmd{Req: l[3], User: l[4], A: l[5]}
	for i, n := range []*int{&c.Kind, &c.N, &c.M} {
		x, ok := decimal(l[i])
		if !ok {
			return api.Cmd{}, api.ErrText
		}
		*n = x
	}
	return c, api.OK
}

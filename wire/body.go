package wire

import (
	"bytes"

	"parley/api"
)

// A number is written in groups of so many bits; more says that another group comes.
const (
	groupBits = 7
	more      = 1 << groupBits
)

// broken is what a reader gives up with: the bytes are no message's body.
type broken struct{}

// reader reads a body from its beginning on.
type reader struct {
	left []byte
}

// numbers answers where the message's numbers are, in the order in which they are written and read.
func numbers(m *api.Msg) [7]*int {
	return [7]*int{&m.From, &m.To, &m.Term, &m.Index, &m.LogTerm, &m.Commit, &m.Hint}
}

// appendBody writes a message that can be told behind b.
func appendBody(b []byte, m api.Msg) []byte {
	b = append(b, byte(m.Kind))
	for _, n := range numbers(&m) {
		b = appendNumber(b, *n)
	}
	ok := byte(0)
	if m.OK {
		ok = 1
	}
	b = append(b, ok, byte(len(m.Entries)))
	for _, e := range m.Entries {
		b = appendNumber(b, e.Term)
		b = append(b, byte(len(e.Data)))
		b = append(b, e.Data...)
	}
	return b
}

// appendNumber writes a number: those near 0 are short, whether above or below it.
func appendNumber(b []byte, n int) []byte {
	u := uint64(n)<<1 ^ uint64(int64(n)>>63)
	for u >= more {
		b = append(b, byte(u)|more)
		u >>= groupBits
	}
	return append(b, byte(u))
}

// readBody reads a whole body. That it is the message's own is asked at the end: a number with more bytes than it needs, or bytes left behind the message, make another one.
func readBody(b []byte) api.Msg {
	r := &reader{left: b}
	m := api.Msg{Kind: int(r.byte())}
	for _, n := range numbers(&m) {
		*n = r.number()
	}
	m.OK = r.byte() == 1
	for range r.byte() {
		m.Entries = append(m.Entries, r.entry())
	}
	own, e := Encode(m)
	if e != api.OK || !bytes.Equal(own, b) {
		panic(broken{})
	}
	return m
}

func (r *reader) entry() api.Entry {
	term := r.number()
	return api.Entry{Term: term, Data: string(r.take(int(r.byte())))}
}

// number reads a number; bits for which there is no room are lost.
func (r *reader) number() int {
	var u uint64
	for shift := 0; ; shift += groupBits {
		x := r.byte()
		u |= uint64(x&^more) << shift
		if x < more {
			return int(u>>1) ^ -int(u&1)
		}
	}
}

func (r *reader) byte() byte {
	return r.take(1)[0]
}

// take answers the next n bytes, where they lie.
func (r *reader) take(n int) []byte {
	if n > len(r.left) {
		panic(broken{})
	}
	b := r.left[:n]
	r.left = r.left[n:]
	return b
}

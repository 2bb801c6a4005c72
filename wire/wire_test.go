package wire_test

import (
	"bytes"
	"encoding/binary"
	"encoding/hex"
	"fmt"
	"math"
	"math/rand"
	"reflect"
	"slices"
	"strings"
	"testing"

	"parley/api"
	"parley/wire"
)

func check(t *testing.T, what string, got, want any) {
	t.Helper()
	if g, w := fmt.Sprintf("%+v", got), fmt.Sprintf("%+v", want); g != w {
		t.Errorf("%s: %.500s, not %.500s", what, g, w)
	}
}

// same tells whether two messages are the same; a list that is nil and an empty one are.
func same(a, b api.Msg) bool {
	if len(a.Entries) == 0 && len(b.Entries) == 0 {
		a.Entries, b.Entries = nil, nil
	}
	return reflect.DeepEqual(a, b)
}

func sameList(a, b []api.Msg) bool {
	return slices.EqualFunc(a, b, same)
}

// body is the body of a message as the document says it, with the numbers written by the library.
func body(m api.Msg) []byte {
	b := []byte{byte(m.Kind)}
	for _, n := range []int{m.From, m.To, m.Term, m.Index, m.LogTerm, m.Commit, m.Hint} {
		b = binary.AppendVarint(b, int64(n))
	}
	b = append(b, 0, byte(len(m.Entries)))
	if m.OK {
		b[len(b)-2] = 1
	}
	for _, e := range m.Entries {
		b = binary.AppendVarint(b, int64(e.Term))
		b = append(b, byte(len(e.Data)))
		b = append(b, e.Data...)
	}
	return b
}

// frame is any body with its length ahead.
func frame(body []byte) []byte {
	return append([]byte{byte(len(body) >> 8), byte(len(body))}, body...)
}

// told is the body of a message that can be told.
func told(t *testing.T, m api.Msg) []byte {
	t.Helper()
	b, e := wire.Encode(m)
	if e != api.OK {
		t.Fatalf("Encode of %+v: %d", m, e)
	}
	return b
}

// number is any number; those at the edges of a group of bits come often.
func number(r *rand.Rand) int {
	switch r.Intn(4) {
	case 0:
		return r.Intn(5)
	case 1:
		n := 1<<r.Intn(64) + r.Intn(3) - 1
		return n * (1 - r.Intn(2)*2)
	case 2:
		return []int{math.MaxInt, math.MinInt, math.MinInt + 1, -1, 0}[r.Intn(5)]
	}
	return int(r.Uint64()) >> r.Intn(64)
}

func entry(r *rand.Rand, most int) api.Entry {
	b := make([]byte, r.Intn(most+1))
	r.Read(b)
	return api.Entry{Term: number(r), Data: string(b)}
}

// message is any message that can be told.
func message(r *rand.Rand) api.Msg {
	m := api.Msg{Kind: r.Intn(256), From: number(r), To: number(r), Term: number(r), Index: number(r), LogTerm: number(r), Commit: number(r), Hint: number(r), OK: r.Intn(2) == 0}
	for range r.Intn(9) * r.Intn(2) {
		m.Entries = append(m.Entries, entry(r, 80>>r.Intn(7)))
	}
	return m
}

// greatest is a message with the longest body that there is.
func greatest() api.Msg {
	e := api.Entry{Term: math.MinInt, Data: strings.Repeat("z", 80)}
	return api.Msg{Kind: 255, From: math.MinInt, To: math.MaxInt, Term: math.MinInt, Index: math.MaxInt, LogTerm: math.MinInt, Commit: math.MinInt, Hint: math.MaxInt, OK: true, Entries: slices.Repeat([]api.Entry{e}, 8)}
}

func TestP14_1Examples(t *testing.T) {
	check(t, "the limits", []int{wire.MaxEntries, wire.MaxFrame}, []int{8, 900})
	m := api.Msg{Kind: 2, From: 1, OK: true}
	check(t, "the body", hex.EncodeToString(told(t, m)), "02020000000000000100")
	f, e := wire.Frame(m)
	check(t, "the frame", []any{hex.EncodeToString(f), e}, []any{"000a02020000000000000100", api.OK})
	check(t, "nothing", hex.EncodeToString(told(t, api.Msg{})), "00000000000000000000")
}

// TestP14_1Places: each field stands in its place, in its form.
func TestP14_1Places(t *testing.T) {
	for _, c := range []struct {
		m    api.Msg
		want string
	}{
		{api.Msg{Kind: 255}, "ff 00 00 00 00 00 00 00 00 00"},
		{api.Msg{From: -1}, "00 01 00 00 00 00 00 00 00 00"},
		{api.Msg{To: 1}, "00 00 02 00 00 00 00 00 00 00"},
		{api.Msg{Term: -2}, "00 00 00 03 00 00 00 00 00 00"},
		{api.Msg{Index: 63}, "00 00 00 00 7e 00 00 00 00 00"},
		{api.Msg{LogTerm: -64}, "00 00 00 00 00 7f 00 00 00 00"},
		{api.Msg{Commit: 64}, "00 00 00 00 00 00 80 01 00 00 00"},
		{api.Msg{Hint: -65}, "00 00 00 00 00 00 00 81 01 00 00"},
		{api.Msg{OK: true}, "00 00 00 00 00 00 00 00 01 00"},
		{api.Msg{Term: 300}, "00 00 00 d8 04 00 00 00 00 00 00"},
		{api.Msg{Index: 8191}, "00 00 00 00 fe 7f 00 00 00 00 00"},
		{api.Msg{Index: -8193}, "00 00 00 00 81 80 01 00 00 00 00 00"},
		{api.Msg{Commit: math.MaxInt}, "00 00 00 00 00 00 fe ff ff ff ff ff ff ff ff 01 00 00 00"},
		{api.Msg{Commit: math.MinInt}, "00 00 00 00 00 00 ff ff ff ff ff ff ff ff ff 01 00 00 00"},
		{api.Msg{Entries: []api.Entry{{}}}, "00 00 00 00 00 00 00 00 00 01 00 00"},
		{api.Msg{Entries: []api.Entry{{Term: -3, Data: "xy"}, {Term: 64, Data: "\x00"}}}, "00 00 00 00 00 00 00 00 00 02 05 02 78 79 80 01 01 00"},
	} {
		want, _ := hex.DecodeString(strings.ReplaceAll(c.want, " ", ""))
		check(t, fmt.Sprintf("the body of %+v", c.m), fmt.Sprintf("% x", told(t, c.m)), c.want)
		f, _ := wire.Frame(c.m)
		check(t, fmt.Sprintf("the frame of %+v", c.m), fmt.Sprintf("% x", f), fmt.Sprintf("% x", frame(want)))
	}
}

// TestP14_1Check: what can be told, and the error that comes first.
func TestP14_1Check(t *testing.T) {
	few, many := make([]api.Entry, 8), make([]api.Entry, 9)
	fits, long := strings.Repeat("x", 80), strings.Repeat("x", 81)
	for _, c := range []struct {
		what string
		m    api.Msg
		want api.Errno
	}{
		{"the least kind", api.Msg{Kind: 0}, api.OK},
		{"the greatest kind", api.Msg{Kind: 255}, api.OK},
		{"a kind below", api.Msg{Kind: -1}, api.ErrArg},
		{"a kind above", api.Msg{Kind: 256}, api.ErrArg},
		{"a kind far below", api.Msg{Kind: math.MinInt}, api.ErrArg},
		{"a kind far above", api.Msg{Kind: 1 << 32}, api.ErrArg},
		{"eight entries", api.Msg{Entries: few}, api.OK},
		{"nine entries", api.Msg{Entries: many}, api.ErrBig},
		{"many entries", api.Msg{Entries: make([]api.Entry, 256)}, api.ErrBig},
		{"80 bytes", api.Msg{Entries: []api.Entry{{Data: fits}}}, api.OK},
		{"81 bytes", api.Msg{Entries: []api.Entry{{Data: long}}}, api.ErrBig},
		{"81 bytes, the last ones", api.Msg{Entries: []api.Entry{{Data: fits}, {}, {Data: long}}}, api.ErrBig},
		{"256 bytes", api.Msg{Entries: []api.Entry{{Data: strings.Repeat("x", 256)}}}, api.ErrBig},
		{"a wrong kind, and nine entries", api.Msg{Kind: 256, Entries: many}, api.ErrArg},
		{"a wrong kind, and 81 bytes", api.Msg{Kind: -1, Entries: []api.Entry{{Data: long}}}, api.ErrArg},
		{"numbers below 0", api.Msg{From: -1, To: -2, Term: -3, Index: -4, LogTerm: -5, Commit: -6, Hint: -7, Entries: []api.Entry{{Term: -8}}}, api.OK},
		{"the greatest one", greatest(), api.OK},
	} {
		check(t, c.what, wire.Check(c.m), c.want)
		b, e := wire.Encode(c.m)
		f, g := wire.Frame(c.m)
		check(t, c.what+": Encode and Frame", []any{e, g}, []any{c.want, c.want})
		if c.want != api.OK && (len(b) > 0 || len(f) > 0) {
			t.Errorf("%s: beside an error: %x, %x", c.what, b, f)
		}
	}
}

// TestP14_1All: bodies and frames of any messages.
func TestP14_1All(t *testing.T) {
	r := rand.New(rand.NewSource(141))
	for range 20000 {
		m := message(r)
		want := body(m)
		f, e := wire.Frame(m)
		if b := told(t, m); !bytes.Equal(b, want) || e != api.OK || !bytes.Equal(f, frame(want)) {
			t.Fatalf("%+v: %x, and %x, %d, not %x", m, b, f, e, want)
		}
	}
	check(t, "the longest body", len(told(t, greatest())), 801)
}

func TestP14_2Examples(t *testing.T) {
	for _, b := range [][]byte{{}, {2}, {2, 0x82, 0, 0, 0, 0, 0, 0, 0, 1, 0}} {
		m, e := wire.Decode(b)
		if e != api.ErrText || !same(m, api.Msg{}) {
			t.Errorf("Decode(% x): %+v, %d", b, m, e)
		}
	}
}

func TestP14_2Back(t *testing.T) {
	r := rand.New(rand.NewSource(142))
	l := []api.Msg{{}, greatest(), {Entries: make([]api.Entry, 8)}}
	for range 20000 {
		l = append(l, message(r))
	}
	for _, m := range l {
		if back, e := wire.Decode(told(t, m)); e != api.OK || !same(back, m) {
			t.Fatalf("%+v came back as %+v, %d", m, back, e)
		}
	}
}

// TestP14_2Wrong: bodies of no message, each wrong in one place.
func TestP14_2Wrong(t *testing.T) {
	nines := strings.Repeat("ff ", 9)
	for _, c := range []struct {
		what, b string
		want    api.Errno
	}{
		{"all is well", "02 02 00 00 00 00 00 00 01 00", api.OK},
		{"a byte more", "02 02 00 00 00 00 00 00 01 00 00", api.ErrText},
		{"OK of 2", "02 02 00 00 00 00 00 00 02 00", api.ErrText},
		{"OK of 255", "02 02 00 00 00 00 00 00 ff 00", api.ErrText},
		{"two bytes for 0", "02 80 00 00 00 00 00 00 00 01 00", api.ErrText},
		{"three bytes for 1", "02 82 80 00 00 00 00 00 00 00 01 00", api.ErrText},
		{"two bytes for the last number", "02 02 00 00 00 00 00 82 00 01 00", api.ErrText},
		{"the greatest number", "02 fe " + nines[3:] + "01 00 00 00 00 00 00 01 00", api.OK},
		{"the least number", "02 " + nines + "01 00 00 00 00 00 00 01 00", api.OK},
		{"a bit too many", "02 " + nines + "02 00 00 00 00 00 00 01 00", api.ErrText},
		{"some bits too many", "02 " + nines + "03 00 00 00 00 00 00 01 00", api.ErrText},
		{"eleven bytes", "02 " + nines + "81 00 00 00 00 00 00 00 01 00", api.ErrText},
		{"eleven bytes with something in them", "02 " + nines + "81 01 00 00 00 00 00 00 01 00", api.ErrText},
		{"a number without an end", "02 " + strings.Repeat("80 ", 300), api.ErrText},
		{"one entry", "02 02 00 00 00 00 00 00 01 01 05 02 78 79", api.OK},
		{"two bytes for an entry's term", "02 02 00 00 00 00 00 00 01 01 85 00 02 78 79", api.ErrText},
		{"an entry is wanting", "02 02 00 00 00 00 00 00 01 02 05 02 78 79", api.ErrText},
		{"an entry too many", "02 02 00 00 00 00 00 00 01 01 05 02 78 79 05 00", api.ErrText},
		{"an entry's byte is wanting", "02 02 00 00 00 00 00 00 01 01 05 03 78 79", api.ErrText},
		{"an entry's byte too many", "02 02 00 00 00 00 00 00 01 01 05 01 78 79", api.ErrText},
		{"eight entries", "02 02 00 00 00 00 00 00 01 08" + strings.Repeat(" 05 00", 8), api.OK},
		{"nine entries", "02 02 00 00 00 00 00 00 01 09" + strings.Repeat(" 05 00", 9), api.ErrText},
		{"255 entries", "02 02 00 00 00 00 00 00 01 ff" + strings.Repeat(" 05 00", 255), api.ErrText},
		{"80 bytes", "02 02 00 00 00 00 00 00 01 01 05 50" + strings.Repeat(" 78", 80), api.OK},
		{"81 bytes", "02 02 00 00 00 00 00 00 01 01 05 51" + strings.Repeat(" 78", 81), api.ErrText},
		{"255 bytes", "02 02 00 00 00 00 00 00 01 01 05 ff" + strings.Repeat(" 78", 255), api.ErrText},
		{"900 bytes", strings.Repeat("00", 900), api.ErrText},
		{"901 bytes", strings.Repeat("00", 901), api.ErrBig},
		{"901 bytes of a message", "02 02 00 00 00 00 00 00 01 00" + strings.Repeat(" 00", 891), api.ErrBig},
		{"many bytes", strings.Repeat("00", 70000), api.ErrBig},
	} {
		b, err := hex.DecodeString(strings.ReplaceAll(c.b, " ", ""))
		if err != nil {
			t.Fatal(err)
		}
		m, e := wire.Decode(b)
		check(t, c.what, e, c.want)
		if e == api.OK && !bytes.Equal(body(m), b) || e != api.OK && !same(m, api.Msg{}) {
			t.Errorf("%s: %+v", c.what, m)
		}
	}
}

// reader is a second reader of bodies; ok is false behind the first thing that is wrong.
type reader struct {
	b  []byte
	ok bool
}

// number takes a number that the library can read, if it is as short as can be.
func (r *reader) number() int {
	n, size := binary.Varint(r.b)
	if size < 1 || size > 1 && r.b[size-1] == 0 {
		r.b, r.ok = nil, false
		return 0
	}
	r.b = r.b[size:]
	return int(n)
}

// bytes takes n bytes; n above most is wrong.
func (r *reader) bytes(n, most int) []byte {
	if n > len(r.b) || n > most {
		r.b, r.ok = nil, false
		return make([]byte, n)
	}
	b := r.b[:n]
	r.b = r.b[n:]
	return b
}

func second(b []byte) (api.Msg, bool) {
	r := &reader{b, true}
	m := api.Msg{Kind: int(r.bytes(1, 1)[0])}
	m.From, m.To, m.Term, m.Index = r.number(), r.number(), r.number(), r.number()
	m.LogTerm, m.Commit, m.Hint = r.number(), r.number(), r.number()
	ok, count := r.bytes(1, 1)[0], int(r.bytes(1, 1)[0])
	m.OK = ok == 1
	for range min(count, 9) {
		term := r.number()
		m.Entries = append(m.Entries, api.Entry{Term: term, Data: string(r.bytes(int(r.bytes(1, 1)[0]), 80))})
	}
	return m, r.ok && ok < 2 && count < 9 && len(r.b) == 0
}

// both holds Decode against the second reader.
func both(t *testing.T, b []byte) bool {
	t.Helper()
	want, ok := second(b)
	m, e := wire.Decode(b)
	if ok && (e != api.OK || !same(m, want)) || !ok && (e != api.ErrText || !same(m, api.Msg{})) {
		t.Fatalf("Decode(% x): %+v, %d", b, m, e)
	}
	return ok
}

// TestP14_2Altered: messages with each byte altered, with one more or one fewer, cut at each place.
func TestP14_2Altered(t *testing.T) {
	r := rand.New(rand.NewSource(143))
	l := [][]byte{told(t, greatest()), told(t, api.Msg{}), told(t, api.Msg{Kind: 2, From: 1, OK: true})}
	for range 200 {
		l = append(l, told(t, message(r)))
	}
	whole := 0
	for i, b := range l {
		for at := range b {
			both(t, b[:at])
			both(t, slices.Delete(slices.Clone(b), at, at+1))
			both(t, slices.Insert(slices.Clone(b), at, byte(r.Intn(256))))
			for x := range 256 {
				if i > 9 && x%16 != i%16 && x != 128 {
					continue
				}
				c := slices.Clone(b)
				c[at] = byte(x)
				if both(t, c) {
					whole++
				}
			}
		}
	}
	for range 20000 {
		b := make([]byte, r.Intn(30))
		for i := range b {
			b[i] = byte(r.Intn(256) >> r.Intn(9))
		}
		if both(t, b) {
			whole++
		}
	}
	if whole < 1000 {
		t.Errorf("only %d altered bodies were those of messages", whole)
	}
}

// feed feeds pieces, holds Rest against what is said of it, and answers all messages and the first error.
func feed(t *testing.T, s *wire.Stream, pieces ...[]byte) ([]api.Msg, api.Errno) {
	t.Helper()
	var all []api.Msg
	end := api.OK
	for _, p := range pieces {
		l, e := s.Feed(p)
		if end != api.OK && (len(l) > 0 || e != end) {
			t.Fatalf("behind the error %d: %d messages, %d", end, len(l), e)
		}
		if e != api.OK && s.Rest() != 0 {
			t.Fatalf("behind the error %d: Rest %d", e, s.Rest())
		}
		all, end = append(all, l...), e
	}
	return all, end
}

// frames is the frames of these messages.
func frames(t *testing.T, l ...api.Msg) []byte {
	t.Helper()
	var b []byte
	for _, m := range l {
		f, e := wire.Frame(m)
		if e != api.OK {
			t.Fatalf("Frame of %+v: %d", m, e)
		}
		b = append(b, f...)
	}
	return b
}

func TestP14_3Examples(t *testing.T) {
	m := api.Msg{Kind: 2, From: 1, OK: true}
	f := frames(t, m)
	var s wire.Stream
	check(t, "Rest of the zero Stream", s.Rest(), 0)
	for i, p := range [][]byte{f[:1], f[1:4], f[4:], nil} {
		l, e := s.Feed(p)
		check(t, fmt.Sprint("Feed ", i), []any{l, e, s.Rest()}, []any{[][]api.Msg{{}, {}, {m}, {}}[i], api.OK, []int{1, 4, 0, 0}[i]})
	}
	l, e := s.Feed([]byte{3, 0x85})
	check(t, "901", []any{l, e, s.Rest()}, []any{[]api.Msg{}, api.ErrBig, 0})
	for _, p := range [][]byte{f, nil, {0}} {
		l, e = s.Feed(p)
		check(t, "behind the error", []any{l, e, s.Rest()}, []any{[]api.Msg{}, api.ErrBig, 0})
	}
}

// TestP14_3Ends: what ends a stream, and when: nothing that is still wanting does.
func TestP14_3Ends(t *testing.T) {
	m, n := api.Msg{Kind: 1, To: 2}, api.Msg{Kind: 4, Entries: []api.Entry{{Term: 7, Data: "seven"}}}
	ahead := frames(t, m, n)
	for _, c := range []struct {
		what string
		b    []byte // behind the frames ahead
		at   int    // so many bytes of it make the error known
		want api.Errno
	}{
		{"901", []byte{3, 0x85, 0, 0}, 2, api.ErrBig},
		{"the longest one that can be said", []byte{255, 255, 1}, 2, api.ErrBig},
		{"1024", []byte{4, 0, 1}, 2, api.ErrBig},
		{"900 bytes of no message", frame(make([]byte, 900)), 902, api.ErrText},
		{"802 bytes of no message", frame(append(told(t, greatest()), 0)), 804, api.ErrText},
		{"no body", []byte{0, 0, 0, 0}, 2, api.ErrText},
		{"a body cut short", frame([]byte{2}), 3, api.ErrText},
		{"a wrong byte", append(frame([]byte{2, 2, 0, 0, 0, 0, 0, 0, 2, 0}), ahead...), 12, api.ErrText},
		{"a frame, and then 901", append(slices.Clone(ahead), 3, 0x85), len(ahead) + 2, api.ErrBig},
	} {
		want, e := []api.Msg{m, n}, api.OK
		if bytes.HasPrefix(c.b, ahead) {
			want = append(want, want...)
		}
		var whole, bits wire.Stream
		got, e := whole.Feed(append(slices.Clone(ahead), c.b...))
		if e != c.want || !sameList(got, want) || whole.Rest() != 0 {
			t.Errorf("%s, in one piece: %+v, %d, Rest %d", c.what, got, e, whole.Rest())
		}
		bits.Feed(ahead)
		for i := range c.b {
			_, e = bits.Feed(c.b[i : i+1])
			if i+1 < c.at && e != api.OK || i+1 >= c.at && (e != c.want || bits.Rest() != 0) {
				t.Fatalf("%s, byte %d: %d, Rest %d", c.what, i, e, bits.Rest())
			}
		}
	}
}

// spoil is frames of some messages; at last perhaps something wrong, with more behind it, or a frame that isn't whole. It answers how many bytes are left behind the last whole frame.
func spoil(t *testing.T, r *rand.Rand, l []api.Msg) ([]byte, api.Errno, int) {
	t.Helper()
	b := frames(t, l...)
	more := frames(t, message(r), message(r))
	switch r.Intn(5) {
	case 0:
		return slices.Concat(b, []byte{3 + byte(r.Intn(252)), 0x85 + byte(r.Intn(120))}, more), api.ErrBig, 0
	case 1:
		bad := told(t, message(r))
		return slices.Concat(b, frame(append(bad, 0)), more), api.ErrText, 0
	case 2:
		f := frames(t, message(r))
		n := r.Intn(len(f))
		return append(b, f[:n]...), api.OK, n
	}
	return b, api.OK, 0
}

// TestP14_3Pieces: in whatever pieces the bytes come, the same comes of them.
func TestP14_3Pieces(t *testing.T) {
	r := rand.New(rand.NewSource(144))
	for range 400 {
		var want []api.Msg
		for range r.Intn(6) {
			want = append(want, message(r))
		}
		b, e, rest := spoil(t, r, want)
		for _, most := range []int{1, 2, 3, 7, 100, len(b) + 1} {
			var pieces [][]byte
			for left := b; len(left) > 0; {
				n := min(len(left), 1+r.Intn(most))
				if r.Intn(9) == 0 {
					n = 0
				}
				pieces = append(pieces, left[:n])
				left = left[n:]
			}
			var s wire.Stream
			got, f := feed(t, &s, pieces...)
			if f != e || !sameList(got, want) || s.Rest() != rest {
				t.Fatalf("%d messages in %d pieces: %d messages, %d, Rest %d, not %d, Rest %d", len(want), len(pieces), len(got), f, s.Rest(), e, rest)
			}
		}
	}
}

// TestP14_3Each: each message comes with the byte that makes it whole, and Rest says what waits.
func TestP14_3Each(t *testing.T) {
	r := rand.New(rand.NewSource(145))
	var s wire.Stream
	for range 200 {
		m := message(r)
		f := frames(t, m)
		for i := range f {
			l, e := s.Feed(f[i : i+1])
			if last := i == len(f)-1; e != api.OK || last && (!sameList(l, []api.Msg{m}) || s.Rest() != 0) || !last && (len(l) > 0 || s.Rest() != i+1) {
				t.Fatalf("byte %d of %d: %+v, %d, Rest %d", i+1, len(f), l, e, s.Rest())
			}
		}
	}
	var both wire.Stream
	f := frames(t, greatest())
	l, e := both.Feed(append(slices.Clone(f), f...))
	if e != api.OK || !sameList(l, []api.Msg{greatest(), greatest()}) {
		t.Errorf("two at once: %d, %d", len(l), e)
	}
}

// roomy is b with room behind it that has something in it.
func roomy(b []byte) []byte {
	l := append(slices.Clone(b), "what lies behind it"...)
	return l[:len(b)]
}

// TestP14_4: neither what is handed in nor the room behind it is changed; answers are memory of their own.
func TestP14_4(t *testing.T) {
	r := rand.New(rand.NewSource(146))
	for range 300 {
		m := message(r)
		m.Entries = append(m.Entries, api.Entry{Term: 1, Data: "one"}, api.Entry{Term: 2, Data: "behind"})
		m.Entries = m.Entries[:min(len(m.Entries)-1, 8)]
		was := slices.Clone(m.Entries[:cap(m.Entries)])
		wire.Check(m)
		first, second := told(t, m), told(t, m)
		f, g := frames(t, m), frames(t, m)
		check(t, "the entries, and the room behind them", m.Entries[:cap(m.Entries)], was)
		want := slices.Clone(first)
		clear(first[:cap(first)])
		clear(f[:cap(f)])
		check(t, "another answer", []any{second, g}, []any{want, frame(want)})
	}
}

func TestP14_4Decode(t *testing.T) {
	m := api.Msg{Kind: 3, Entries: []api.Entry{{Term: 1, Data: "one"}, {Term: 2, Data: "two"}}}
	b := roomy(told(t, m))
	was := slices.Clone(b[:cap(b)])
	first, _ := wire.Decode(b)
	second, _ := wire.Decode(b)
	check(t, "what was handed in, and the room behind it", b[:cap(b)], was)
	clear(b)
	clear(first.Entries[:cap(first.Entries)])
	check(t, "another answer", second, m)
}

func TestP14_4Stream(t *testing.T) {
	m := api.Msg{Kind: 3, Entries: []api.Entry{{Term: 1, Data: "one"}, {Term: 2, Data: "two"}}}
	f := frames(t, m, m, m)
	for at := range f {
		var s wire.Stream
		a, b := roomy(f[:at]), roomy(f[at:])
		wasA, wasB := slices.Clone(a[:cap(a)]), slices.Clone(b[:cap(b)])
		first, _ := s.Feed(a)
		check(t, "what was handed in, and the room behind it", a[:cap(a)], wasA)
		clear(a[:cap(a)])
		second, _ := s.Feed(b)
		check(t, "what was handed in, and the room behind it", b[:cap(b)], wasB)
		clear(b[:cap(b)])
		all := append(slices.Clone(first), second...)
		check(t, "all messages", all, []api.Msg{m, m, m})
		for i := range all {
			clear(all[i].Entries[:cap(all[i].Entries)])
			if i < 2 {
				check(t, "the message behind", all[i+1], m)
			}
		}
	}
}

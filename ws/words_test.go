package ws_test

import (
	"encoding/binary"
	"fmt"
	"math/rand"
	"slices"
	"testing"
	"unicode/utf8"

	"parley/ws"
)

// cutFrame reads a frame's head by the document's words: the frame without its payload, how many bytes ahead of it, how many it has; a code, if it is wrong; false: there isn't enough of it.
func cutFrame(s string, masked bool, begun int) (f ws.Frame, from, size, code int, ok bool) {
	if len(s) < 2 {
		return f, 0, 0, 0, false
	}
	f.Fin, f.Op, f.Masked, size = s[0] >= 128, int(s[0]%16), s[1] >= 128, int(s[1]%128)
	known := slices.Contains([]int{0, 1, 2, 8, 9, 10}, f.Op)
	switch {
	case s[0]/16%8 != 0, !known, f.Masked != masked, f.Op >= 8 && (!f.Fin || size > 125), f.Op == 0 && begun < 0, f.Op > 0 && f.Op < 3 && begun >= 0:
		return f, 0, 0, 1002, true
	}
	from = 2
	switch {
	case size == 126 && len(s) < 4, size == 127 && len(s) < 10:
		return f, 0, 0, 0, false
	case size == 126:
		from, size = 4, int(binary.BigEndian.Uint16([]byte(s[2:])))
		if size < 126 {
			return f, 0, 0, 1002, true
		}
	case size == 127:
		if n := binary.BigEndian.Uint64([]byte(s[2:])); n < 65536 || n >= 1<<63 {
			return f, 0, 0, 1002, true
		}
		return f, 0, 0, 1009, true
	}
	if f.Op < 3 && max(begun, 0)+size > 4096 {
		return f, 0, 0, 1009, true
	}
	if masked && len(s) >= from+4 {
		f.Mask = [4]byte([]byte(s[from:]))
	}
	if masked {
		from += 4
	}
	return f, from, size, 0, len(s) >= from+size
}

// control is the item of a control frame.
func control(op int, payload string) ws.Item {
	if op != ws.Close || payload == "" {
		i := item(op, payload)
		if op == ws.Close {
			i.Code = 1005
		}
		return i
	}
	code := 0
	if len(payload) > 1 {
		code = int(binary.BigEndian.Uint16([]byte(payload)))
	}
	for _, good := range [][2]int{{1000, 1003}, {1007, 1011}, {3000, 4999}} {
		if code >= good[0] && code <= good[1] {
			if !utf8.ValidString(payload[2:]) {
				return fails(1007)
			}
			return closed(code, payload[2:])
		}
	}
	return fails(1002)
}

// second is what a Reader should answer to all of s, by the document's words.
func second(s string, masked bool) []ws.Item {
	var l []ws.Item
	begun, kind, text := -1, 0, ""
	for {
		f, from, size, code, ok := cutFrame(s, masked, begun)
		if !ok {
			return l
		}
		if code != 0 {
			return append(l, fails(code))
		}
		payload := []byte(s[from : from+size])
		for i := range payload {
			payload[i] ^= f.Mask[i%4]
		}
		s = s[from+size:]
		if f.Op >= 8 {
			i := control(f.Op, string(payload))
			l = append(l, i)
			if isLast(i) {
				return l
			}
			continue
		}
		if f.Op > 0 {
			kind, text = f.Op, ""
		}
		text += string(payload)
		begun = len(text)
		if f.Fin {
			begun = -1
			if kind == ws.Text && !utf8.ValidString(text) {
				return append(l, fails(1007))
			}
			l = append(l, item(kind, text))
		}
	}
}

// source makes any frames, most of which are in order.
type source struct {
	*rand.Rand
}

// payload is any text of at most so many bytes; seldom it isn't UTF-8.
func (r *source) payload(most int) string {
	var b []byte
	for range r.Intn(most + 1) {
		b = utf8.AppendRune(b, []rune{'a', 'é', '€', '😀', 0, 0x10ffff}[r.Intn(6)])
	}
	for len(b) > most {
		_, size := utf8.DecodeLastRune(b)
		b = b[:len(b)-size]
	}
	if len(b) > 0 && r.Intn(40) == 0 {
		b[r.Intn(len(b))] ^= byte(r.Intn(256))
	}
	return string(b)
}

// size is how long a payload may be.
func (r *source) size() int {
	return []int{0, 1, 5, 20, 20, 125, 126, 127, 300, 2000, 4096}[r.Intn(11)]
}

// turn lets a Frame be masked, or not.
func (r *source) turn(f ws.Frame, masked bool) string {
	f.Masked = masked
	r.Read(f.Mask[:])
	return frame(f)
}

// controls are some control frames, as frames and as the items that are read of them.
func (r *source) controls(masked bool) (string, []ws.Item) {
	s, l := "", []ws.Item(nil)
	for range r.Intn(3) {
		f := ws.Frame{Fin: true, Op: ws.Ping + r.Intn(2), Payload: r.payload(125)}
		s += r.turn(f, masked)
		l = append(l, item(f.Op, f.Payload))
	}
	return s, l
}

// message is a message in any frames, with control frames between them.
func (r *source) message(masked bool, kind int, text string) (string, []ws.Item) {
	s, l := r.controls(masked)
	op, left := kind, text
	for range r.Intn(4) {
		n := r.Intn(len(left) + 1)
		c, items := r.controls(masked)
		s += r.turn(ws.Frame{Op: op, Payload: left[:n]}, masked) + c
		l = append(l, items...)
		op, left = ws.More, left[n:]
	}
	return s + r.turn(ws.Frame{Fin: true, Op: op, Payload: left}, masked), append(l, item(kind, text))
}

// end is what may come at last: a Close, or something wrong.
func (r *source) end(masked bool) string {
	switch r.Intn(5) {
	case 0:
		code := []int{999, 1000, 1003, 1004, 1005, 1007, 1011, 1012, 3000, 4999, 5000}[r.Intn(11)]
		return r.turn(ws.Frame{Fin: true, Op: ws.Close, Payload: string(binary.BigEndian.AppendUint16(nil, uint16(code))) + r.payload(123)}, masked)
	case 1:
		return r.turn(ws.Frame{Fin: r.Intn(4) > 0, Op: r.Intn(16), Payload: r.payload(1)}, masked)
	case 2:
		return r.turn(ws.Frame{Op: ws.Text, Payload: r.payload(4096)}, masked) + r.turn(ws.Frame{Payload: r.payload(4096)}, masked)
	case 3:
		b := []byte{0x82, 0x7f, 0, 0, 0, 0, 0, 0, 0xff, 0xff}
		b[2+r.Intn(8)] += byte(r.Intn(256))
		return string(b)
	}
	return r.turn(ws.Frame{Fin: true, Op: ws.Text, Payload: r.payload(30)}, !masked)
}

// stream is some messages and perhaps an end; now and then a byte is altered, or taken away.
func (r *source) stream(masked bool) string {
	s := ""
	for range r.Intn(5) {
		m, _ := r.message(masked, 1+r.Intn(2), r.payload(r.size()))
		s += m
	}
	if r.Intn(2) == 0 {
		s += r.end(masked)
		m, _ := r.message(masked, 1, "behind")
		s += m
	}
	if len(s) > 0 && r.Intn(3) == 0 {
		i := r.Intn(min(len(s), 1+r.Intn(len(s))))
		s = s[:i] + []string{"", "\x00", "\x80", "\x7f", "\xff", string([]byte{s[i] ^ 1<<r.Intn(8)})}[r.Intn(6)] + s[i+1:]
	}
	return s
}

// cut cuts s in pieces of at most so many bytes, some of them empty.
func (r *source) cut(s string, most int) []string {
	var l []string
	for len(s) > 0 {
		n := min(len(s), r.Intn(most+1))
		l = append(l, s[:n])
		s = s[n:]
	}
	return append(l, "")
}

// TestP22_2Any: any bytes in one piece, against the words.
func TestP22_2Any(t *testing.T) {
	r := &source{rand.New(rand.NewSource(222))}
	came := map[string]int{}
	for i := range 20000 {
		masked := i%2 == 0
		s := r.stream(masked)
		if i%5 == 0 {
			b := make([]byte, r.Intn(12))
			for i := range b {
				b[i] = []byte{0x81, 0x82, 1, 2, 0, 0x80, 0x88, 0x89, 0x7e, 0x7f, 0xfe, 0xff, 3, 'a'}[r.Intn(14)]
			}
			s = string(b)
		}
		l, want := ws.NewReader(masked).Feed([]byte(s)), second(s, masked)
		if !slices.Equal(l, want) {
			t.Fatalf("masked %v, % x: %q\nnot %q", masked, s, fmt.Sprint(l), fmt.Sprint(want))
		}
		for _, i := range l {
			name := fmt.Sprint(i.Kind)
			if isLast(i) {
				name += fmt.Sprint(" ", i.Code)
			}
			came[name]++
		}
	}
	for _, name := range []string{"1", "2", "9", "10", "0 1002", "0 1007", "0 1009", "8 1000", "8 1011", "8 3000"} {
		if came[name] < 50 {
			t.Errorf("%s came %d times", name, came[name])
		}
	}
}

// TestP22_3Any: any bytes in any pieces: the same in the end.
func TestP22_3Any(t *testing.T) {
	r := &source{rand.New(rand.NewSource(223))}
	for i := range 600 {
		masked := i%2 == 0
		s := r.stream(masked)
		want := second(s, masked)
		for _, most := range []int{1, 2, 5, 50, 500, 5000} {
			reader := ws.NewReader(masked)
			var l []ws.Item
			for _, piece := range r.cut(s, most) {
				l = append(l, reader.Feed([]byte(piece))...)
			}
			if !slices.Equal(l, want) {
				t.Fatalf("masked %v, % x in pieces up to %d: %q\nnot %q", masked, s, most, fmt.Sprint(l), fmt.Sprint(want))
			}
		}
	}
}

// TestP22_3Each: behind each byte just what all bytes up to it say has been told.
func TestP22_3Each(t *testing.T) {
	r := &source{rand.New(rand.NewSource(224))}
	for i := range 600 {
		masked := i%2 == 0
		s := r.stream(masked)
		s = s[:min(len(s), 1200)]
		reader := ws.NewReader(masked)
		var l []ws.Item
		for i := range len(s) {
			l = append(l, reader.Feed([]byte(s[i:i+1]))...)
			want := second(s[:i+1], masked)
			dead := len(want) > 0 && isLast(want[len(want)-1])
			if !slices.Equal(l, want) || reader.Dead() != dead {
				t.Fatalf("masked %v, % x, %d bytes: %q, Dead %v\nnot %q", masked, s, i+1, fmt.Sprint(l), reader.Dead(), fmt.Sprint(want))
			}
		}
	}
}

// TestP22_4Back: messages and control frames that were encoded come back, however they were cut in frames.
func TestP22_4Back(t *testing.T) {
	r := &source{rand.New(rand.NewSource(225))}
	for i := range 2000 {
		masked := i%2 == 0
		s, want := "", []ws.Item(nil)
		for range 1 + r.Intn(5) {
			kind, text := 1+r.Intn(2), r.payload(r.size())
			if !utf8.ValidString(text) {
				kind = ws.Binary
			}
			m, items := r.encodedMessage(t, masked, kind, text)
			s += m
			want = append(want, items...)
		}
		code := []int{1000, 1001, 1002, 1003, 1005, 1007, 1009, 1011, 3000, 4321, 4999}[r.Intn(11)]
		reason := []string{"", "bye", "é€😀"}[r.Intn(3)]
		end := closed(code, reason)
		if code == 1005 {
			end.Text = ""
		}
		f := ws.Frame{Fin: true, Op: ws.Close, Masked: masked, Payload: ws.Closing(code, reason)}
		r.Read(f.Mask[:])
		s, want = s+encoded(t, f), append(want, end)
		reader := ws.NewReader(masked)
		var got []ws.Item
		for _, piece := range r.cut(s, 1+r.Intn(3000)) {
			got = append(got, reader.Feed([]byte(piece))...)
		}
		if !slices.Equal(got, want) || !reader.Dead() {
			t.Fatalf("%d items came back as %d: %q\nnot %q", len(want), len(got), fmt.Sprint(got), fmt.Sprint(want))
		}
	}
}

// encodedMessage is message, encoded by the program.
func (r *source) encodedMessage(t *testing.T, masked bool, kind int, text string) (string, []ws.Item) {
	t.Helper()
	plain, items := r.message(false, kind, text)
	s := ""
	for begun := -1; plain != ""; {
		f, from, size, _, _ := cutFrame(plain, false, begun)
		f.Payload, plain = plain[from:from+size], plain[from+size:]
		if f.Op < 8 {
			begun = 0
		}
		f.Masked = masked
		r.Read(f.Mask[:])
		s += encoded(t, f)
	}
	return s, items
}

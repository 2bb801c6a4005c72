package ws_test

import (
	"crypto/sha1"
	"encoding/base64"
	"encoding/hex"
	"fmt"
	"math"
	"slices"
	"strings"
	"testing"
	"unsafe"

	"parley/api"
	"parley/ws"
)

func check(t *testing.T, what string, got, want any) {
	t.Helper()
	if g, w := fmt.Sprintf("%+v", got), fmt.Sprintf("%+v", want); g != w {
		t.Errorf("%s: %.1000s, not %.1000s", what, g, w)
	}
}

// bytes are the bytes of hexadecimal digits; what stands between ' and ' is itself.
func bytes(s string) string {
	out := ""
	for i, part := range strings.Split(s, "'") {
		if i%2 == 0 {
			b, err := hex.DecodeString(strings.ReplaceAll(part, " ", ""))
			if err != nil {
				panic(err)
			}
			part = string(b)
		}
		out += part
	}
	return out
}

func fails(code int) ws.Item {
	return ws.Item{Code: code}
}

func item(kind int, text string) ws.Item {
	return ws.Item{Kind: kind, Text: text}
}

func closed(code int, reason string) ws.Item {
	return ws.Item{Kind: ws.Close, Code: code, Text: reason}
}

// isLast tells of what comes at last only.
func isLast(i ws.Item) bool {
	return i.Kind == 0 || i.Kind == ws.Close
}

func same(t *testing.T, what string, got, want []ws.Item) {
	t.Helper()
	if !slices.Equal(got, want) {
		t.Errorf("%.200s: %d items: %.600q, not %d: %.600q", what, len(got), fmt.Sprint(got), len(want), fmt.Sprint(want))
	}
}

// pieces are the items of all Feeds of pieces of so many bytes.
func pieces(t *testing.T, masked bool, s string, size int) []ws.Item {
	t.Helper()
	r := ws.NewReader(masked)
	var l []ws.Item
	for piece := range slices.Chunk([]byte(s), size) {
		dead := r.Dead()
		more := r.Feed(piece)
		if dead && len(more) > 0 {
			t.Errorf("% .40x: behind the end: %+v", s, more)
		}
		l = append(l, more...)
		last := slices.IndexFunc(l, isLast)
		if last >= 0 && last < len(l)-1 || r.Dead() != (last >= 0) {
			t.Errorf("% .40x: Dead %v behind %+v", s, r.Dead(), l)
		}
	}
	return l
}

// all holds what comes of bytes in one piece and in pieces of some sizes; and that nothing comes behind the end, if there is one.
func all(t *testing.T, masked bool, s string, want ...ws.Item) {
	t.Helper()
	ping := "\x89\x00"
	if masked {
		ping = "\x89\x80mask"
	}
	same(t, fmt.Sprintf("% .60x in one piece", s), pieces(t, masked, s, len(s)+1), want)
	for _, size := range []int{1, 2, 3, 7, 64, 1000} {
		same(t, fmt.Sprintf("% .60x in pieces of %d", s, size), pieces(t, masked, s, size), want)
	}
	if len(want) > 0 && isLast(want[len(want)-1]) {
		same(t, fmt.Sprintf("% .60x and more behind it", s), pieces(t, masked, s+ping, len(s)), want)
		same(t, fmt.Sprintf("% .60x and more with it", s), pieces(t, masked, s+ping, len(s)+9), want)
	}
}

// told holds that the items come with just the last byte of s.
func told(t *testing.T, masked bool, s string, want ...ws.Item) {
	t.Helper()
	all(t, masked, s[:len(s)-1])
	all(t, masked, s, want...)
}

// behind holds that the last item comes with just the last byte of s, behind the others.
func behind(t *testing.T, masked bool, s string, want ...ws.Item) {
	t.Helper()
	all(t, masked, s[:len(s)-1], want[:len(want)-1]...)
	all(t, masked, s, want...)
}

// encoded is a frame's bytes, which must be to be had.
func encoded(t *testing.T, f ws.Frame) string {
	t.Helper()
	b, e := ws.Encode(f)
	if e != api.OK {
		t.Fatalf("Encode of %.80v: error %d", fmt.Sprint(f), e)
	}
	return string(b)
}

func TestP22_1Examples(t *testing.T) {
	check(t, "the kinds", []int{ws.More, ws.Text, ws.Binary, ws.Close, ws.Ping, ws.Pong}, []int{0, 1, 2, 8, 9, 10})
	check(t, "Accept", ws.Accept("dGhlIHNhbXBsZSBub25jZQ=="), "s3pPLMBiTxaQ9kYGzzhZRbK+xOo=")
	f := ws.Frame{Fin: true, Op: ws.Text, Masked: true, Mask: [4]byte{0x37, 0xfa, 0x21, 0x3d}, Payload: "Hello"}
	check(t, "Encode", fmt.Sprintf("% x", encoded(t, f)), "81 85 37 fa 21 3d 7f 9f 4d 51 58")
}

func TestP22_1Accept(t *testing.T) {
	for _, key := range []string{"", "a", "x3JJHMbDL1EzLkh9GBhXDw==", "dGhlIHNhbXBsZSBub25jZQ", " dGhlIHNhbXBsZSBub25jZQ== ", "\x00\xff", "é", strings.Repeat("k", 28), strings.Repeat("k", 1000)} {
		sum := sha1.Sum([]byte(key + "258EAFA5-E914-47DA-95CA-C5AB0DC85B11"))
		check(t, fmt.Sprintf("Accept of %.40q", key), ws.Accept(key), base64.StdEncoding.EncodeToString(sum[:]))
	}
}

// frame is the bytes of a frame, by the document's words.
func frame(f ws.Frame) string {
	n := len(f.Payload)
	b := []byte{byte(f.Op), byte(n)}
	if n >= 126 {
		b = []byte{byte(f.Op), 126, byte(n / 256), byte(n % 256)}
	}
	if f.Fin {
		b[0] += 128
	}
	if !f.Masked {
		return string(b) + f.Payload
	}
	b[1] += 128
	b = append(b, f.Mask[:]...)
	for i := range n {
		b = append(b, f.Payload[i]^f.Mask[i%4])
	}
	return string(b)
}

// TestP22_1Encode: each Op, with each length at an edge, masked or not.
func TestP22_1Encode(t *testing.T) {
	long := strings.Repeat("any text é\x00\xff", 400)
	for _, size := range []int{0, 1, 2, 3, 4, 5, 124, 125, 126, 127, 128, 255, 256, 257, 4095, 4096} {
		for op := range 16 {
			for i := range 4 {
				f := ws.Frame{Fin: i%2 == 0, Op: op, Masked: i/2 == 0, Mask: [4]byte{1, 0x80, 0, 0xff}, Payload: long[:size]}
				check(t, fmt.Sprintf("Op %d, %d bytes, %d", op, size, i), fmt.Sprintf("% x", encoded(t, f)), fmt.Sprintf("% x", frame(f)))
			}
		}
	}
	check(t, "a short one", fmt.Sprintf("% x", encoded(t, ws.Frame{Op: 15, Mask: [4]byte{9, 9, 9, 9}, Payload: "ab"})), "0f 02 61 62")
	check(t, "one of 126 bytes", fmt.Sprintf("% x", encoded(t, ws.Frame{Fin: true, Masked: true, Payload: long[:126]})[:8]), "80 fe 00 7e 00 00 00 00")
	check(t, "one of 4096 bytes", fmt.Sprintf("% x", encoded(t, ws.Frame{Fin: true, Op: 2, Payload: long[:4096]})[:4]), "82 7e 10 00")
}

func TestP22_1EncodeWrong(t *testing.T) {
	fits, big := strings.Repeat("x", 4096), strings.Repeat("x", 4097)
	for _, c := range []struct {
		op      int
		payload string
		want    api.Errno
	}{
		{-1, "", api.ErrArg}, {16, "", api.ErrArg}, {math.MinInt, "", api.ErrArg}, {math.MaxInt, "", api.ErrArg}, {256, "", api.ErrArg}, {257, fits, api.ErrArg}, {-1, big, api.ErrArg}, {16, big, api.ErrArg},
		{0, big, api.ErrBig}, {15, big, api.ErrBig}, {1, big + big, api.ErrBig}, {8, strings.Repeat(big, 20), api.ErrBig}, {0, fits, api.OK}, {15, fits, api.OK},
	} {
		for i := range 4 {
			b, e := ws.Encode(ws.Frame{Fin: i%2 == 0, Op: c.op, Masked: i/2 == 0, Payload: c.payload})
			if e != c.want || e != api.OK && len(b) > 0 {
				t.Errorf("Op %d, %d bytes: %d bytes, error %d, not %d", c.op, len(c.payload), len(b), e, c.want)
			}
		}
	}
}

func TestP22_1Closing(t *testing.T) {
	for _, c := range []struct {
		code   int
		reason string
		want   string
	}{
		{1000, "", "\x03\xe8"}, {1000, "bye", "\x03\xe8bye"}, {1002, "", "\x03\xea"}, {1003, "é\xff\x00", "\x03\xebé\xff\x00"}, {1004, "", "\x03\xec"}, {1006, "", "\x03\xee"}, {4999, "", "\x13\x87"},
		{1005, "", ""}, {1005, "reason", ""}, {0, "", "\x00\x00"}, {0, "x", "\x00\x00x"}, {255, "", "\x00\xff"}, {256, "", "\x01\x00"}, {65535, "", "\xff\xff"}, {65536, "", "\x00\x00"}, {65536 + 1005, "x", "\x03\xedx"}, {-1, "", "\xff\xff"}, {-1005, "", "\xfc\x13"}, {1005 - 65536, "", "\x03\xed"},
		{math.MaxInt, "", "\xff\xff"}, {math.MinInt, "", "\x00\x00"}, {1 << 40, "", "\x00\x00"}, {1000, strings.Repeat("r", 5000), "\x03\xe8" + strings.Repeat("r", 5000)},
	} {
		check(t, fmt.Sprintf("Closing of %d, %.20q", c.code, c.reason), fmt.Sprintf("%q", ws.Closing(c.code, c.reason)), fmt.Sprintf("%q", c.want))
	}
}

func TestP22_2Examples(t *testing.T) {
	hello := bytes("81 85 37 fa 21 3d 7f 9f 4d 51 58")
	told(t, true, hello, item(ws.Text, "Hello"))
	told(t, true, bytes("81 05"), fails(1002))
	all(t, true, bytes("81 05 48 65 6c 6c 6f"), fails(1002))
	behind(t, false, bytes("01 02 'He' 89 00 80 03 'llo'"), item(ws.Ping, ""), item(ws.Text, "Hello"))
	told(t, false, bytes("88 02 03 e8"), closed(1000, ""))
	told(t, false, bytes("88 01 03"), fails(1002))
	for _, masked := range []bool{false, true} {
		r := ws.NewReader(masked)
		check(t, "Dead at the beginning", r.Dead(), false)
		same(t, "of nothing", append(r.Feed(nil), r.Feed([]byte{})...), nil)
		check(t, "Dead behind nothing", r.Dead(), false)
	}
}

// TestP22_2Frames: messages and control frames in order, each with its last byte.
func TestP22_2Frames(t *testing.T) {
	long := strings.Repeat("0123456789abcdef", 256)
	for _, c := range []struct {
		s    string
		want []ws.Item
	}{
		{"81 00", []ws.Item{item(1, "")}}, {"82 00", []ws.Item{item(2, "")}}, {"89 00", []ws.Item{item(9, "")}}, {"8a 00", []ws.Item{item(10, "")}},
		{"81 01 'a'", []ws.Item{item(1, "a")}}, {"81 02 c3 a9", []ws.Item{item(1, "é")}}, {"82 03 00 ff 80", []ws.Item{item(2, "\x00\xff\x80")}}, {"89 02 ff fe", []ws.Item{item(9, "\xff\xfe")}}, {"8a 01 80", []ws.Item{item(10, "\x80")}},
		{"81 01 'a' 81 01 'b' 82 01 'c'", []ws.Item{item(1, "a"), item(1, "b"), item(2, "c")}},
		{"01 00 80 00", []ws.Item{item(1, "")}}, {"02 00 00 00 00 00 80 00", []ws.Item{item(2, "")}}, {"01 01 'a' 00 00 00 01 'b' 80 01 'c'", []ws.Item{item(1, "abc")}}, {"02 01 ff 80 01 fe", []ws.Item{item(2, "\xff\xfe")}},
		{"01 01 'a' 80 00 01 01 'b' 80 01 'c' 82 01 'd'", []ws.Item{item(1, "a"), item(1, "bc"), item(2, "d")}},
		{"01 01 'a' 89 01 'p' 00 01 'b' 8a 01 'q' 89 00 80 01 'c' 89 01 'r'", []ws.Item{item(9, "p"), item(10, "q"), item(9, ""), item(1, "abc"), item(9, "r")}},
		{"01 01 c3 80 01 a9", []ws.Item{item(1, "é")}}, {"01 01 e2 89 01 ff 00 01 82 80 01 ac", []ws.Item{item(9, "\xff"), item(1, "€")}}, {"01 02 f0 9f 80 02 98 80", []ws.Item{item(1, "😀")}},
		{"89 7d '" + long[:125] + "'", []ws.Item{item(9, long[:125])}}, {"81 7d '" + long[:125] + "'", []ws.Item{item(1, long[:125])}}, {"81 7e 00 7e '" + long[:126] + "'", []ws.Item{item(1, long[:126])}}, {"82 7e 00 7f '" + long[:127] + "'", []ws.Item{item(2, long[:127])}}, {"82 7e 01 00 '" + long[:256] + "'", []ws.Item{item(2, long[:256])}},
		{"81 7e 10 00 '" + long + "'", []ws.Item{item(1, long)}}, {"82 7e 10 00 '" + long + "' 82 7e 10 00 '" + long + "'", []ws.Item{item(2, long), item(2, long)}},
		{"01 7e 0f ff '" + long[:4095] + "' 89 02 'pp' 80 01 'f'", []ws.Item{item(9, "pp"), item(1, long)}}, {"02 7e 10 00 '" + long + "' 00 00 8a 7d '" + long[:125] + "' 80 00", []ws.Item{item(10, long[:125]), item(2, long)}},
	} {
		behind(t, false, bytes(c.s), c.want...)
	}
}

// TestP22_2Masks: each byte is turned by its own of the mask, in each frame from the first on.
func TestP22_2Masks(t *testing.T) {
	told(t, true, bytes("81 80 01 02 03 04"), item(1, ""))
	told(t, true, bytes("82 85 00 00 00 00 'plain'"), item(2, "plain"))
	told(t, true, bytes("82 86 01 02 03 04 01 02 03 04 01 02"), item(2, "\x00\x00\x00\x00\x00\x00"))
	told(t, true, bytes("82 86 01 02 04 08 00 00 00 00 00 00"), item(2, "\x01\x02\x04\x08\x01\x02"))
	told(t, true, bytes("02 82 01 02 04 08 00 00 80 83 10 20 40 80 00 00 00"), item(2, "\x01\x02\x10\x20\x40"))
	behind(t, true, bytes("02 81 01 02 04 08 00 89 83 ff ff ff ff 00 00 00 80 82 10 20 40 80 00 00"), item(9, "\xff\xff\xff"), item(2, "\x01\x10\x20"))
	told(t, true, bytes("88 85 03 e8 00 00 00 00 'by' 66"), closed(1000, "bye"))
}

// TestP22_2Starts: what is wrong when a frame's first two bytes are there: as soon as they are, and not ahead of that.
func TestP22_2Starts(t *testing.T) {
	for _, s := range []string{
		"c1 00", "a1 00", "91 00", "f1 00", "c0 00", "c8 00", "99 00", "aa 05",
		"83 00", "84 00", "85 00", "86 00", "87 00", "8b 00", "8c 00", "8d 00", "8e 00", "8f 00", "03 00", "0b 00", "0f 7f", "83 7e",
		"81 80", "82 ff", "88 82", "89 80", "8a fe",
		"08 00", "09 00", "0a 00", "08 02", "0a 05", "88 7e", "89 7e", "8a 7e", "88 7f", "89 7f", "8a 7f", "09 7e",
		"80 00", "00 00", "80 05", "00 7e", "80 7f",
	} {
		told(t, false, bytes(s), fails(1002))
		behind(t, false, bytes("89 01 'p' 01 00 80 00"+s), item(9, "p"), item(1, ""), fails(1002))
	}
	for _, s := range []string{"81 00", "82 7e", "82 7f", "80 00", "88 00", "89 05", "8a 00", "c1 80", "83 80", "09 80", "89 fe", "8a ff", "80 80", "00 ff"} {
		told(t, true, bytes(s), fails(1002))
	}
	for _, s := range []string{"81 00", "82 00", "01 00", "02 05", "81 7e", "82 7f", "83 00", "c0 00", "90 00", "80 80", "08 00"} {
		told(t, false, bytes("01 02 'ab'"+s), fails(1002))
		told(t, false, bytes("02 00 00 01 ff"+s), fails(1002))
	}
	for first := range 256 {
		for _, second := range []int{0, 1, 125, 126, 127, 128, 253, 254, 255} {
			op, short := first%16, second%128
			ok := first/16%8 == 0 && second < 128 && (op == 1 || op == 2 || op >= 8 && op <= 10 && first >= 128 && short < 126)
			l := ws.NewReader(false).Feed([]byte{byte(first), byte(second)})
			if wrong := slices.Equal(l, []ws.Item{fails(1002)}); wrong == ok {
				t.Errorf("%02x %02x: %+v", first, second, l)
			}
		}
	}
}

// TestP22_2Lengths: what is wrong when a length is there.
func TestP22_2Lengths(t *testing.T) {
	for _, c := range []struct {
		s    string
		code int
	}{
		{"82 7e 00 00", 1002}, {"82 7e 00 01", 1002}, {"82 7e 00 7d", 1002}, {"02 7e 00 05", 1002}, {"81 7e 00 7d", 1002},
		{"82 7e 10 01", 1009}, {"82 7e 20 00", 1009}, {"82 7e ff ff", 1009}, {"01 7e 10 01", 1009}, {"81 7e 11 00", 1009},
		{"82 7f 00 00 00 00 00 00 00 00", 1002}, {"82 7f 00 00 00 00 00 00 00 05", 1002}, {"82 7f 00 00 00 00 00 00 00 7e", 1002}, {"82 7f 00 00 00 00 00 00 10 00", 1002}, {"82 7f 00 00 00 00 00 00 ff ff", 1002},
		{"82 7f 00 00 00 00 00 01 00 00", 1009}, {"82 7f 00 00 00 00 01 00 00 00", 1009}, {"82 7f 00 00 00 01 00 00 00 00", 1009}, {"82 7f 01 00 00 00 00 00 00 05", 1009}, {"82 7f 7f ff ff ff ff ff ff ff", 1009}, {"81 7f 40 00 00 00 00 00 00 00", 1009},
		{"82 7f 80 00 00 00 00 00 00 00", 1002}, {"82 7f 80 00 00 00 00 00 00 05", 1002}, {"82 7f ff ff ff ff ff ff ff ff", 1002}, {"01 7f 80 00 00 00 00 01 00 00", 1002}, {"81 7f c0 00 00 00 00 00 00 00", 1002},
	} {
		told(t, false, bytes(c.s), fails(c.code))
		behind(t, false, bytes("81 01 'a'"+c.s), item(1, "a"), fails(c.code))
	}
	told(t, true, bytes("82 fe 00 7d"), fails(1002))
	told(t, true, bytes("82 fe 10 01"), fails(1009))
	told(t, true, bytes("82 ff 00 00 00 00 00 01 00 00"), fails(1009))
	told(t, true, bytes("82 ff 00 00 00 00 00 00 ff ff"), fails(1002))
}

// TestP22_2Sizes: messages of 4096 bytes in several frames, and of one more.
func TestP22_2Sizes(t *testing.T) {
	long := strings.Repeat("0123456789abcdef", 256)
	full := "02 7e 10 00 '" + long + "'"
	for _, s := range []string{full + "80 01", full + "00 01", full + "00 00 00 01", full + "80 7d", full + "80 7e 00 7e", "01 7e 0f ff '" + long[:4095] + "' 80 02", "01 01 'a' 00 7e 10 00", "01 01 'a' 89 00 80 7e 10 00", "02 7e 08 00 '" + long[:2048] + "' 00 7e 08 01"} {
		want := []ws.Item{fails(1009)}
		if strings.Contains(s, "89 00") {
			want = []ws.Item{item(9, ""), fails(1009)}
		}
		behind(t, false, bytes(s), want...)
	}
	behind(t, false, bytes(full+"89 02 'pp' 80 01"), item(9, "pp"), fails(1009))
	told(t, false, bytes(full+"00 7e 00 7d"), fails(1002))
	told(t, false, bytes(full+"01 7e"), fails(1002))
	behind(t, false, bytes("82 7e 10 00 '"+long+"' 82 7e 10 00 '"+long+"' 02 7e 10 00 '"+long+"' 00 01"), item(2, long), item(2, long), fails(1009))
	behind(t, false, bytes("01 7e 10 00 '"+long+"' 80 00 01 01 'a' 80 7e 0f ff '"+long[:4095]+"'"), item(1, long), item(1, "a"+long[:4095]))
}

// TestP22_2Texts: a Text that isn't UTF-8 fails when it is whole; a Binary may be anything.
func TestP22_2Texts(t *testing.T) {
	for _, text := range []string{"\xff", "\x80", "\xc3", "a\xc3", "\xc0\xaf", "\xe0\x80\xaf", "\xed\xa0\x80", "\xed\xbf\xbf", "\xf4\x90\x80\x80", "\xf8\x88\x80\x80\x80", "\xe2\x82", "é\xff", "\xffa", "\xa9\xc3", strings.Repeat("x", 4095) + "\xe9"} {
		one := encoded(t, ws.Frame{Fin: true, Op: ws.Text, Payload: text})
		told(t, false, one, fails(1007))
		told(t, true, encoded(t, ws.Frame{Fin: true, Op: ws.Text, Masked: true, Mask: [4]byte{1, 2, 3, 4}, Payload: text}), fails(1007))
		behind(t, false, encoded(t, ws.Frame{Fin: true, Op: ws.Text, Payload: "good"})+one, item(1, "good"), fails(1007))
		cut := len(text) / 2
		two := encoded(t, ws.Frame{Op: ws.Text, Payload: text[:cut]}) + bytes("89 01 ff") + encoded(t, ws.Frame{Op: ws.More, Payload: text[cut:]})
		behind(t, false, two+bytes("80 00"), item(9, "\xff"), fails(1007))
		told(t, false, encoded(t, ws.Frame{Fin: true, Op: ws.Binary, Payload: text}), item(2, text))
	}
	for _, text := range []string{"\x00", "é", "€", "\ufeff", "\ufffd", "\ud7ff\ue000", "\U0010ffff", "😀😀", strings.Repeat("é", 2048)} {
		told(t, false, encoded(t, ws.Frame{Fin: true, Op: ws.Text, Payload: text}), item(1, text))
	}
	all(t, false, bytes("01 01 ff 00 01 ff"))
	behind(t, false, bytes("01 01 ff 89 00 80 00"), item(9, ""), fails(1007))
	behind(t, false, bytes("02 01 ff 80 00 81 01 ff"), item(2, "\xff"), fails(1007))
}

// closing is a Close of this payload.
func closing(t *testing.T, payload string) string {
	return encoded(t, ws.Frame{Fin: true, Op: ws.Close, Payload: payload})
}

// TestP22_2Closes: each code that a Close can say, and its reason.
func TestP22_2Closes(t *testing.T) {
	told(t, false, bytes("88 00"), closed(1005, ""))
	told(t, true, bytes("88 80 01 02 03 04"), closed(1005, ""))
	for c := range 256 {
		told(t, false, closing(t, string([]byte{byte(c)})), fails(1002))
	}
	for c := range 65536 {
		want := fails(1002)
		if c >= 1000 && c <= 1003 || c >= 1007 && c <= 1011 || c >= 3000 && c <= 4999 {
			want = closed(c, "why")
		}
		r := ws.NewReader(false)
		if l := r.Feed([]byte(closing(t, string([]byte{byte(c >> 8), byte(c)})+"why"))); !slices.Equal(l, []ws.Item{want}) || !r.Dead() {
			t.Errorf("Close with %d: %+v", c, l)
		}
	}
	for _, c := range []int{0, 999, 1000, 1001, 1002, 1003, 1004, 1005, 1006, 1007, 1008, 1009, 1010, 1011, 1012, 1015, 2999, 3000, 4999, 5000, 65535} {
		want := []ws.Item{fails(1002)}
		if c >= 1000 && c <= 1003 || c >= 1007 && c <= 1011 || c >= 3000 && c <= 4999 {
			want = []ws.Item{closed(c, "")}
		}
		code := string([]byte{byte(c >> 8), byte(c)})
		told(t, false, closing(t, code), want...)
		if want[0].Kind == 0 {
			told(t, false, closing(t, code+"\xff"), fails(1002))
			continue
		}
		long := strings.Repeat("é", 61) + "x"
		told(t, false, closing(t, code+long), closed(c, long))
		for _, reason := range []string{"\xff", "a\xc3", "\xed\xa0\x80", long[:122] + "\x80"} {
			told(t, false, closing(t, code+reason), fails(1007))
		}
	}
	behind(t, false, bytes("01 01 ff 88 02 03 e8"), closed(1000, ""))
	behind(t, false, bytes("81 01 'a' 01 01 'b' 88 04 03 e9 'by'"), item(1, "a"), closed(1001, "by"))
}

// TestP22_2Dead: behind the end nothing is read.
func TestP22_2Dead(t *testing.T) {
	for _, s := range []string{"88 00", "88 02 03 e8", "88 01 00", "83 00", "81 01 ff", "82 7e ff ff"} {
		r := ws.NewReader(false)
		if l := r.Feed([]byte(bytes("81 01 'a'" + s + "81 01 'b'"))); len(l) != 2 || l[0] != item(1, "a") || !isLast(l[1]) {
			t.Errorf("%s: %+v", s, l)
		}
		for range 3 {
			check(t, "Dead", r.Dead(), true)
			same(t, "behind the end", r.Feed([]byte(bytes("81 01 'c'"))), nil)
			same(t, "nothing", r.Feed(nil), nil)
		}
	}
	for _, s := range []string{"", "81", "81 05", "01 01 'a'", "89 00", "81 01 'a'"} {
		r := ws.NewReader(false)
		r.Feed([]byte(bytes(s)))
		check(t, "Dead behind "+s, r.Dead(), false)
	}
}

// roomy is a list with room behind it, in which something stands.
func roomy(s string) []byte {
	m := append(make([]byte, 0, len(s)+5), s...)
	fill(m[len(m):], 'r')
	return m
}

func fill(l []byte, x byte) {
	for i := range l[:cap(l)] {
		l[:cap(l)][i] = x
	}
}

// TestP22_5Feed: what is fed isn't changed, nor the room behind it; it may be written over.
func TestP22_5Feed(t *testing.T) {
	for _, masked := range []bool{false, true} {
		s := ""
		for _, f := range []ws.Frame{{Op: ws.Text, Payload: "He"}, {Fin: true, Op: ws.Ping, Payload: "ping"}, {Fin: true, Payload: "llo"}, {Fin: true, Op: ws.Binary, Payload: strings.Repeat("b", 200)}, {Fin: true, Op: ws.Close, Payload: "\x03\xe8bye"}} {
			f.Masked, f.Mask = masked, [4]byte{1, 2, 3, 4}
			s += encoded(t, f)
		}
		want := []ws.Item{item(9, "ping"), item(1, "Hello"), item(2, strings.Repeat("b", 200)), closed(1000, "bye")}
		for at := range len(s) {
			r := ws.NewReader(masked)
			var l []ws.Item
			for _, piece := range []string{s[:at], s[at:]} {
				b := roomy(piece)
				was := string(b[:cap(b)])
				l = append(l, r.Feed(b)...)
				check(t, "what was fed, and the room behind it", string(b[:cap(b)]), was)
				fill(b, 'z')
			}
			same(t, fmt.Sprintf("cut at %d, and written over", at), l, want)
		}
	}
}

// TestP22_5Copies: a copy of a Reader goes on by itself; each of NewReader is one of its own.
func TestP22_5Copies(t *testing.T) {
	s := bytes("01 02 'He' 89 02 'pp' 80 03 'llo' 82 03 'end'")
	want := []ws.Item{item(9, "pp"), item(1, "Hello"), item(2, "end")}
	for at := range len(s) {
		r, other := ws.NewReader(false), ws.NewReader(false)
		l := r.Feed([]byte(s[:at]))
		q := *r
		r.Feed([]byte(s[at:] + "\xff\xff"))
		same(t, fmt.Sprintf("the copy at %d", at), append(l, q.Feed([]byte(s[at:]))...), want)
		same(t, "another one", other.Feed([]byte(s)), want)
	}
}

// TestP22_5Answers: what is encoded is in memory of its own.
func TestP22_5Answers(t *testing.T) {
	text := []byte("payload")
	for _, masked := range []bool{false, true} {
		f := ws.Frame{Fin: true, Op: ws.Text, Masked: masked, Mask: [4]byte{1, 2, 3, 4}, Payload: unsafe.String(&text[0], len(text))}
		first, _ := ws.Encode(f)
		second, _ := ws.Encode(f)
		want := string(second)
		check(t, "what was handed in", string(text), "payload")
		fill(first, 'z')
		check(t, "when another answer is written over", string(second), want)
		fill(text, 'z')
		check(t, "when the payload is written over", string(second), want)
		copy(text, "payload")
	}
	reason, key := []byte("reason"), []byte("key")
	s, accept := ws.Closing(1000, unsafe.String(&reason[0], len(reason))), ws.Accept(unsafe.String(&key[0], len(key)))
	fill(reason, 'z')
	fill(key, 'z')
	check(t, "when the reason and the key are written over", []string{s, accept}, []string{"\x03\xe8reason", ws.Accept("key")})
}

package frame

import (
	"bytes"
	"encoding/binary"
	"fmt"
	"hash/crc32"
	"math"
	"math/rand"
	"testing"

	"parley/api"
)

// framed is a framed block by the document's words, whatever it is told.
func framed(kind byte, n uint16, place uint16, seq uint64, payload []byte) []byte {
	b := []byte{'P', 'b', kind, 1}
	b = binary.LittleEndian.AppendUint16(b, n)
	b = binary.LittleEndian.AppendUint16(b, place)
	b = binary.LittleEndian.AppendUint64(b, seq)
	b = append(b, make([]byte, 8)...)
	b = append(b, payload...)
	b = append(b, make([]byte, 256-len(b))...)
	return summed(b)
}

// summed sets the sum anew, so that it isn't what is wrong with a block.
func summed(b []byte) []byte {
	copy(b[16:], []byte{0, 0, 0, 0})
	binary.LittleEndian.PutUint32(b[16:], crc32.ChecksumIEEE(b))
	return b
}

func random(r *rand.Rand, n int) []byte {
	b := make([]byte, n)
	r.Read(b)
	return b
}

func show(f Frame) string {
	return fmt.Sprintf("%d %d %x", f.Kind, f.Seq, f.Payload)
}

// refused tells whether a block is refused with that error, and nothing beside it.
func refused(t *testing.T, what string, b []byte, place int, want api.Errno) {
	t.Helper()
	if f, e := Decode(b, place); e != want || f.Kind != 0 || f.Seq != 0 || len(f.Payload) != 0 {
		t.Errorf("%s: %s, %d", what, show(f), e)
	}
}

func TestP4_1EncodeExample(t *testing.T) {
	b, e := Encode(Frame{Kind: 1, Seq: 2, Payload: []byte("ab")}, 3)
	if e != api.OK || len(b) != 256 {
		t.Fatalf("%d bytes, %d", len(b), e)
	}
	if want := []byte{0x50, 0x62, 1, 1, 2, 0, 3, 0, 2, 0, 0, 0, 0, 0, 0, 0}; !bytes.Equal(b[:16], want) {
		t.Errorf("it begins %x, not %x", b[:16], want)
	}
	if !bytes.Equal(b[20:], append([]byte{0, 0, 0, 0, 'a', 'b'}, make([]byte, 230)...)) {
		t.Errorf("behind the sum: %x", b[20:])
	}
	sum := binary.LittleEndian.Uint32(b[16:])
	copy(b[16:], []byte{0, 0, 0, 0})
	if want := crc32.ChecksumIEEE(b); sum != want {
		t.Errorf("sum %x, not %x", sum, want)
	}
}

func TestP4_1Encode(t *testing.T) {
	r := rand.New(rand.NewSource(41))
	for _, kind := range []int{0, 1, 127, 128, 254, 255} {
		for _, place := range []int{0, 1, 255, 256, 0x0304, 2046, 2047} {
			for _, seq := range []uint64{0, 1, 0x0102030405060708, 1 << 63, math.MaxUint64} {
				for _, n := range []int{0, 1, 2, 100, 231, 232} {
					f := Frame{kind, seq, random(r, n)}
					b, e := Encode(f, place)
					if want := framed(byte(kind), uint16(n), uint16(place), seq, f.Payload); e != api.OK || !bytes.Equal(b, want) {
						t.Fatalf("Encode(%s, %d): %x, %d", show(f), place, b, e)
					}
				}
			}
		}
	}
}

func TestP4_1EncodeRefuses(t *testing.T) {
	for _, c := range []struct {
		kind, place, n int
		want           api.Errno
	}{
		{256, 3, 2, api.ErrArg}, {-1, 3, 2, api.ErrArg}, {257, 3, 2, api.ErrArg}, {math.MinInt, 3, 2, api.ErrArg}, {math.MaxInt, 3, 2, api.ErrArg},
		{1, -1, 2, api.ErrArg}, {1, 2048, 2, api.ErrArg}, {1, 65536, 2, api.ErrArg}, {1, math.MinInt, 2, api.ErrArg}, {1, math.MaxInt, 2, api.ErrArg},
		{1, 3, 233, api.ErrBig}, {1, 3, 256, api.ErrBig}, {1, 3, 70000, api.ErrBig}, {255, 2047, 233, api.ErrBig},
		{256, 3, 233, api.ErrArg}, {1, 2048, 233, api.ErrArg}, {-1, -1, 233, api.ErrArg}, // ErrArg is named first
	} {
		if b, e := Encode(Frame{c.kind, 5, make([]byte, c.n)}, c.place); len(b) != 0 || e != c.want {
			t.Errorf("Encode of kind %d, %d bytes, at %d: %x, %d", c.kind, c.n, c.place, b, e)
		}
	}
}

func TestP4_2RoundTrip(t *testing.T) {
	r := rand.New(rand.NewSource(42))
	for n := range 233 {
		for _, payload := range [][]byte{random(r, n), make([]byte, n), bytes.Repeat([]byte{0xff}, n)} {
			f, place := Frame{r.Intn(256), r.Uint64(), payload}, r.Intn(2048)
			b, e := Encode(f, place)
			if e != api.OK {
				t.Fatalf("Encode(%s, %d): %d", show(f), place, e)
			}
			if g, e := Decode(b, place); e != api.OK || show(g) != show(f) {
				t.Fatalf("%s came back as %s, %d", show(f), show(g), e)
			}
		}
	}
	for _, f := range []Frame{{}, {0, 0, nil}, {255, math.MaxUint64, bytes.Repeat([]byte{0xff}, 232)}} {
		for _, place := range []int{0, 2047} {
			b, _ := Encode(f, place)
			if g, e := Decode(b, place); e != api.OK || show(g) != show(f) {
				t.Errorf("%s came back as %s, %d", show(f), show(g), e)
			}
		}
	}
}

func TestP4_2EachBit(t *testing.T) {
	for _, f := range []Frame{{1, 2, []byte("ab")}, {0, 0, nil}, {255, math.MaxUint64, bytes.Repeat([]byte{0xff}, 232)}} {
		for i := range 256 * 8 {
			b, _ := Encode(f, 3)
			b[i/8] ^= 1 << (i % 8)
			refused(t, fmt.Sprintf("bit %d turned", i), b, 3, api.ErrForm)
		}
	}
}

func TestP4_2WrongLength(t *testing.T) {
	b, _ := Encode(Frame{1, 2, []byte("ab")}, 3)
	refused(t, "nothing", nil, 3, api.ErrArg)
	refused(t, "255 bytes", b[:255], 3, api.ErrArg)
	refused(t, "255 bytes", b[1:], 3, api.ErrArg)
	refused(t, "257 bytes", append(bytes.Clone(b), 0), 3, api.ErrArg)
	refused(t, "512 bytes", append(bytes.Clone(b), b...), 3, api.ErrArg)
	refused(t, "255 bytes at a wrong place", b[:255], -1, api.ErrArg) // ErrArg is named first
}

func TestP4_2WrongPlace(t *testing.T) {
	for _, at := range []int{0, 3, 2047} {
		b, _ := Encode(Frame{1, 2, []byte("ab")}, at)
		for _, place := range []int{math.MinInt, -65536 + at, -1, at - 1, at + 1, at + 256, at ^ 1, 2048, at + 65536, at + 1<<32, math.MaxInt} {
			refused(t, fmt.Sprintf("place %d, not %d", place, at), b, place, api.ErrForm)
		}
	}
	for _, place := range []int{2048, 65535} { // no disk has such a place
		refused(t, fmt.Sprintf("a block for place %d", place), framed(1, 2, uint16(place), 2, []byte("ab")), place, api.ErrForm)
	}
}

// TestP4_2WrongForm: the sums are right, but something else isn't.
func TestP4_2WrongForm(t *testing.T) {
	good := framed(1, 2, 3, 2, []byte("ab"))
	if _, e := Decode(good, 3); e != api.OK {
		t.Fatalf("the good one: %d", e)
	}
	for _, c := range []struct {
		at int
		x  byte
	}{
		{0, 'p'}, {0, 0}, {1, 'B'}, {1, 0}, {3, 0}, {3, 2}, {3, 255}, {5, 1}, {5, 255}, {4, 1}, {4, 0}, {4, 233}, {4, 255}, {6, 2}, {6, 4}, {7, 1}, {7, 128}, {20, 1}, {21, 1}, {22, 1}, {23, 128}, {26, 1}, {27, 255}, {255, 1},
	} {
		b := bytes.Clone(good)
		b[c.at] = c.x
		refused(t, fmt.Sprintf("byte %d is %d", c.at, c.x), summed(b), 3, api.ErrForm)
	}
	for _, n := range []uint16{233, 234, 256, 258, 512, 65535} {
		refused(t, fmt.Sprintf("a length of %d", n), framed(1, n, 3, 2, make([]byte, 232)), 3, api.ErrForm)
	}
	refused(t, "noughts", make([]byte, 256), 0, api.ErrForm)
	refused(t, "ones", bytes.Repeat([]byte{255}, 256), 65535, api.ErrForm)
	b := bytes.Clone(good) // the sum of the bytes with the sum in them
	binary.LittleEndian.PutUint32(b[16:], crc32.ChecksumIEEE(b))
	refused(t, "a sum of its own sum", b, 3, api.ErrForm)
	b = bytes.Clone(good)
	b[16], b[17], b[18], b[19] = b[19], b[18], b[17], b[16]
	refused(t, "a sum with its highest byte first", b, 3, api.ErrForm)
	// a longer length is right, where noughts stand behind the text
	if f, e := Decode(framed(1, 4, 3, 2, []byte("ab")), 3); e != api.OK || show(f) != show(Frame{1, 2, []byte("ab\x00\x00")}) {
		t.Errorf("noughts in the payload: %s, %d", show(f), e)
	}
}

// row is framed blocks from a place on, and what Chain is to answer of the first n.
func row(place int, fs ...Frame) [][]byte {
	var l [][]byte
	for i, f := range fs {
		b, _ := Encode(f, place+i)
		l = append(l, b)
	}
	return l
}

func chained(t *testing.T, what string, blocks [][]byte, place int, want []Frame) {
	t.Helper()
	got := Chain(blocks, place)
	same := len(got) == len(want)
	for i := 0; same && i < len(want); i++ {
		same = show(got[i]) == show(want[i])
	}
	if !same {
		t.Errorf("%s: %v, not %v", what, got, want)
	}
}

func TestP4_3Chain(t *testing.T) {
	const top = math.MaxUint64
	for _, c := range []struct {
		what  string
		place int
		fs    []Frame
		n     int
	}{
		{"none", 0, nil, 0},
		{"one", 7, []Frame{{1, 5, []byte("a")}}, 1},
		{"5, 6, 8", 7, []Frame{{1, 5, []byte("a")}, {1, 6, nil}, {1, 8, []byte("c")}}, 2},
		{"5, 6, 7", 7, []Frame{{1, 5, []byte("a")}, {1, 6, []byte("b")}, {1, 7, []byte("c")}}, 3},
		{"twice the same", 7, []Frame{{1, 5, nil}, {1, 5, nil}}, 1},
		{"falling", 7, []Frame{{1, 5, nil}, {1, 4, nil}}, 1},
		{"a gap, then on", 7, []Frame{{1, 5, nil}, {1, 7, nil}, {1, 8, nil}}, 1},
		{"a gap, then as if none", 7, []Frame{{1, 5, nil}, {1, 9, nil}, {1, 7, nil}}, 1},
		{"round", 7, []Frame{{1, top - 1, nil}, {1, top, nil}, {1, 0, nil}, {1, 1, nil}}, 4},
		{"to the top, no further", 7, []Frame{{1, top, nil}, {1, 1, nil}}, 1},
		{"another kind", 7, []Frame{{1, 5, nil}, {1, 6, nil}, {2, 7, nil}, {1, 8, nil}}, 2},
		{"a kind that changes", 7, []Frame{{1, 5, nil}, {2, 6, nil}, {2, 7, nil}}, 1},
		{"kind 0 from 0 on", 0, []Frame{{0, 0, nil}, {0, 1, nil}}, 2},
		{"kind 0, then 1", 0, []Frame{{0, 0, nil}, {1, 1, nil}}, 1},
		{"over the last place", 2046, []Frame{{1, 5, nil}, {1, 6, nil}, {1, 7, nil}}, 2},
	} {
		chained(t, c.what, row(c.place, c.fs...), c.place, c.fs[:c.n])
	}
}

func TestP4_3ChainOfWrongBlocks(t *testing.T) {
	fs := []Frame{{1, 5, []byte("a")}, {1, 6, []byte("b")}, {1, 7, []byte("c")}, {1, 8, []byte("d")}}
	for i := range fs {
		for what, spoilt := range map[string]func([]byte) []byte{
			"a bit":      func(b []byte) []byte { b[100] ^= 1; return b },
			"none":       func([]byte) []byte { return nil },
			"255 bytes":  func(b []byte) []byte { return b[:255] },
			"257 bytes":  func(b []byte) []byte { return append(b, 0) },
			"noughts":    func([]byte) []byte { return make([]byte, 256) },
			"its place":  func(b []byte) []byte { b[6]++; return summed(b) },
			"a bad form": func(b []byte) []byte { b[3]++; return summed(b) },
		} {
			l := row(7, fs...)
			l[i] = spoilt(l[i])
			chained(t, fmt.Sprintf("%s at %d", what, i), l, 7, fs[:i])
		}
	}
	for _, place := range []int{6, 8, -1, 2047, 7 + 65536, math.MaxInt, math.MinInt} {
		chained(t, fmt.Sprintf("read at %d", place), row(7, fs...), place, nil)
	}
	l := row(7, fs...)
	l[1], l[2] = l[2], l[1]
	chained(t, "two changed round", l, 7, fs[:1])
	chained(t, "from its second on", row(7, fs...)[1:], 8, fs[1:])
	chained(t, "no blocks", nil, -1, nil)
}

func TestP4_3ChainLong(t *testing.T) {
	r := rand.New(rand.NewSource(43))
	var fs []Frame
	for i := range 2048 {
		fs = append(fs, Frame{9, uint64(i) - 1000, random(r, r.Intn(233))})
	}
	chained(t, "a whole disk", row(0, fs...), 0, fs)
}

// spare answers b with room behind it that has marks, and a look whether they still stand.
func spare(b []byte) ([]byte, func() bool) {
	whole := append(bytes.Clone(b), bytes.Repeat([]byte{0xee}, 300)...)
	return whole[:len(b)], func() bool {
		return bytes.Equal(whole[:len(b)], b) && bytes.Equal(whole[len(b):], bytes.Repeat([]byte{0xee}, 300))
	}
}

func spoil(b []byte) {
	b = b[:cap(b)]
	for i := range b {
		b[i] ^= 0x5a
	}
}

func TestP4_4Encode(t *testing.T) {
	payload, same := spare([]byte("abcd"))
	f := Frame{1, 2, payload}
	a, _ := Encode(f, 3)
	b, _ := Encode(f, 3)
	if !same() || len(f.Payload) != 4 {
		t.Error("the payload is changed")
	}
	spoil(payload)
	spoil(b)
	if !bytes.Equal(a, framed(1, 4, 3, 2, []byte("abcd"))) {
		t.Error("an answer shares memory")
	}
	if !bytes.Equal(payload, []byte{'a' ^ 0x5a, 'b' ^ 0x5a, 'c' ^ 0x5a, 'd' ^ 0x5a}) {
		t.Error("an answer shares memory with the payload")
	}
}

func TestP4_4Decode(t *testing.T) {
	b, same := spare(framed(1, 4, 3, 2, []byte("abcd")))
	f, _ := Decode(b, 3)
	g, _ := Decode(b, 3)
	Decode(b, 4)
	if !same() {
		t.Error("the block is changed")
	}
	spoil(g.Payload)
	if !same() {
		t.Error("the answer shares the block's memory")
	}
	spoil(b)
	if string(f.Payload) != "abcd" {
		t.Error("an answer shares memory")
	}
}

func TestP4_4Chain(t *testing.T) {
	var l [][]byte
	var looks []func() bool
	for i, b := range row(7, Frame{1, 5, []byte("ab")}, Frame{1, 6, []byte("cd")}, Frame{2, 7, []byte("ef")}) {
		whole, same := spare(b)
		l, looks = append(l, whole), append(looks, same)
		if i == 1 {
			l = append(make([][]byte, 0, 9), l...) // room behind the list too
		}
	}
	behind := l[:cap(l)]
	f, g := Chain(l, 7), Chain(l, 7)
	spoil(g[0].Payload)
	spoil(f[1].Payload)
	for i, same := range looks {
		if !same() {
			t.Errorf("block %d is changed", i)
		}
		spoil(l[i])
	}
	for _, b := range behind[3:] {
		if b != nil {
			t.Error("the room behind the list is changed")
		}
	}
	if string(f[0].Payload) != "ab" || string(g[1].Payload) != "cd" {
		t.Error("an answer shares memory")
	}
}

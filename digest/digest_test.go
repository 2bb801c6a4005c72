package digest

import (
	"bytes"
	"crypto/hmac"
	"crypto/sha1"
	"encoding/base64"
	"encoding/hex"
	"hash/crc32"
	"math/rand"
	"strings"
	"testing"
)

// texts are of every length up to some chunks, and some longer ones; the same in each run.
func texts() [][]byte {
	r := rand.New(rand.NewSource(11))
	l := [][]byte{nil, {0}, {0xff}, make([]byte, 64), bytes.Repeat([]byte{0xff}, 200)}
	for n := range 300 {
		b := make([]byte, n)
		r.Read(b)
		l = append(l, b)
	}
	for _, n := range []int{1000, 4096, 70000} {
		b := make([]byte, n)
		r.Read(b)
		l = append(l, b)
	}
	return l
}

func everyByte() []byte {
	b := make([]byte, 256)
	for i := range b {
		b[i] = byte(i)
	}
	return b
}

func TestP2_1Crc32(t *testing.T) {
	for _, c := range []struct {
		s    string
		want uint32
	}{
		{"", 0}, {"123456789", 0xcbf43926}, {"a", 0xe8b7be43}, {"\x00", 0xd202ef8d}, {"\x00\x00\x00\x00", 0x2144df1c}, {"\xff\xff\xff\xff", 0xffffffff},
	} {
		if got := Crc32([]byte(c.s)); got != c.want {
			t.Errorf("Crc32(%q) = %x", c.s, got)
		}
	}
	for _, x := range everyByte() {
		if got, want := Crc32([]byte{x}), crc32.ChecksumIEEE([]byte{x}); got != want {
			t.Errorf("Crc32 of byte %x = %x, not %x", x, got, want)
		}
	}
	for _, b := range texts() {
		if got, want := Crc32(b), crc32.ChecksumIEEE(b); got != want {
			t.Errorf("Crc32 of %d bytes = %x, not %x", len(b), got, want)
		}
	}
}

func TestP2_2Sha1(t *testing.T) {
	for _, c := range []struct{ s, want string }{
		{"", "da39a3ee5e6b4b0d3255bfef95601890afd80709"},
		{"abc", "a9993e364706816aba3e25717850c26c9cd0d89d"},
		{"abcdbcdecdefdefgefghfghighijhijkijkljklmklmnlmnomnopnopq", "84983e441c3bd26ebaae4aa1f95129e5e54670f1"},
		{strings.Repeat("a", 1000000), "34aa973cd4c4daa4f61eeb2bdbad27316534016f"},
	} {
		if got := hex.EncodeToString(Sha1([]byte(c.s))); got != c.want {
			t.Errorf("Sha1 of %d bytes = %s", len(c.s), got)
		}
	}
	for _, b := range texts() { // the lengths about 55, 56, 63, 64 are among them
		if want := sha1.Sum(b); !bytes.Equal(Sha1(b), want[:]) {
			t.Errorf("Sha1 of %d bytes = %x, not %x", len(b), Sha1(b), want)
		}
	}
}

func TestP2_2Sha1Long(t *testing.T) {
	long := make([]byte, 1<<29+1) // its length in bits takes more than four bytes
	if want := sha1.Sum(long); !bytes.Equal(Sha1(long), want[:]) {
		t.Error("Sha1 of a long text")
	}
}

func TestP2_2Mac(t *testing.T) {
	if got := hex.EncodeToString(Mac([]byte("key"), []byte("The quick brown fox jumps over the lazy dog"))); got != "de7c9b85b8b78aa6bc8a7a36f70a90701c9db4d9" {
		t.Errorf("Mac = %s", got)
	}
	if got := hex.EncodeToString(Mac(nil, nil)); got != "fbdb1d1b18aa6c08324b7d64b71fb76370690e1d" {
		t.Errorf("Mac of nothing = %s", got)
	}
	body := everyByte()
	for _, key := range texts() { // 63, 64 and 65 bytes are among them
		for _, n := range []int{0, 1, 55, 64, 256} {
			h := hmac.New(sha1.New, key)
			h.Write(body[:n])
			if want := h.Sum(nil); !bytes.Equal(Mac(key, body[:n]), want) {
				t.Errorf("Mac with %d bytes of key, %d of text = %x, not %x", len(key), n, Mac(key, body[:n]), want)
			}
		}
	}
}

func TestP2_3Hex(t *testing.T) {
	if s := Hex([]byte{0, 0x0f, 0xa0, 0xff, 0x9a}); s != "000fa0ff9a" {
		t.Errorf("Hex = %q", s)
	}
	for _, b := range append(texts(), everyByte()) {
		if Hex(b) != hex.EncodeToString(b) {
			t.Errorf("Hex(%x) = %s", b, Hex(b))
		}
		if got, ok := Unhex(Hex(b)); !ok || !bytes.Equal(got, b) {
			t.Errorf("Unhex(Hex(%x)) = %x, %v", b, got, ok)
		}
	}
}

func TestP2_3Unhex(t *testing.T) {
	if b, ok := Unhex(""); !ok || len(b) != 0 {
		t.Errorf("Unhex of nothing = %x, %v", b, ok)
	}
	if b, ok := Unhex("00ff9a"); !ok || !bytes.Equal(b, []byte{0, 0xff, 0x9a}) {
		t.Errorf("Unhex = %x, %v", b, ok)
	}
	wrong := []string{"0", "0G", "AB", "Ab", "aB", "000", "00 ", " 00", "0x00", "zz", "0g", "g0", "é", "00é", "00-1", "0a0A"}
	for c := range 256 {
		if !strings.ContainsRune("0123456789abcdef", rune(c)) {
			wrong = append(wrong, string([]byte{byte(c), '0'}), string([]byte{'0', byte(c)}), string([]byte{'a', 'b', byte(c), 'c'}))
		}
	}
	for _, s := range wrong {
		if b, ok := Unhex(s); ok || len(b) != 0 {
			t.Errorf("Unhex(%q) = %x, %v", s, b, ok)
		}
	}
}

func TestP2_3Base64(t *testing.T) {
	for _, c := range []struct{ s, want string }{
		{"", ""}, {"f", "Zg=="}, {"fo", "Zm8="}, {"foo", "Zm9v"}, {"foob", "Zm9vYg=="}, {"fooba", "Zm9vYmE="}, {"foobar", "Zm9vYmFy"}, {"\xfb\xff\xfe", "+//+"}, {"\xff", "/w=="}, {"\xff\xff", "//8="},
	} {
		if got := Base64([]byte(c.s)); got != c.want {
			t.Errorf("Base64(%q) = %q", c.s, got)
		}
	}
	for _, b := range append(texts(), everyByte()) {
		if Base64(b) != base64.StdEncoding.EncodeToString(b) {
			t.Errorf("Base64(%x) = %s", b, Base64(b))
		}
	}
}

// What is handed in stays as it is, and its spare room.
func TestP2Unchanged(t *testing.T) {
	calls := map[string]func(b []byte){
		"Crc32":     func(b []byte) { Crc32(b) },
		"Sha1":      func(b []byte) { Sha1(b) },
		"Mac":       func(b []byte) { Mac([]byte("k"), b) },
		"Mac's key": func(b []byte) { Mac(b, []byte("text")) },
		"Hex":       func(b []byte) { Hex(b) },
		"Base64":    func(b []byte) { Base64(b) },
	}
	for name, call := range calls {
		for _, n := range []int{0, 1, 2, 3, 20, 55, 56, 63, 64, 65, 100, 128} {
			b := everyByte()
			call(b[:n])
			if !bytes.Equal(b, everyByte()) {
				t.Errorf("%s changed what it was handed, of %d bytes", name, n)
			}
		}
	}
}

// A change in an answer shows in no other answer, nor in what was handed in.
func TestP2NewMemory(t *testing.T) {
	b := everyByte()
	calls := map[string]func() []byte{
		"Sha1":  func() []byte { return Sha1(b[:20]) },
		"Mac":   func() []byte { return Mac(b[:20], b[:20]) },
		"Unhex": func() []byte { l, _ := Unhex("00ff9a"); return l },
	}
	for name, call := range calls {
		want := bytes.Clone(call())
		first, second := call(), call()
		clear(first[:cap(first)])
		if !bytes.Equal(second, want) || !bytes.Equal(call(), want) || !bytes.Equal(b, everyByte()) {
			t.Errorf("%s shares memory", name)
		}
	}
}

// Package digest is layer 2: sums and marks of bytes: CRC-32, SHA-1, HMAC; hexadecimal and base 64. See shared/doc/02-digest.md.
package digest

import "math/bits"

const (
	chunk    = 64 // bytes that Sha1 takes in at once
	sumBytes = 20 // bytes of a Sha1
	lenBytes = 8  // bytes that tell a text's length at its end

	hexDigits    = "0123456789abcdef"
	base64Digits = "ABCDEFGHIJKLMNOPQRSTUVWXYZabcdefghijklmnopqrstuvwxyz0123456789+/"
)

// crcSteps says what four bits that are shifted out come to: a sum is taken of every block that is written, so bit by bit would be slow.
var crcSteps = [16]uint32{
	0x00000000, 0x1db71064, 0x3b6e20c8, 0x26d930ac,
	0x76dc4190, 0x6b6b51f4, 0x4db26158, 0x5005713c,
	0xedb88320, 0xf00f9344, 0xd6d6a3e8, 0xcb61b38c,
	0x9b64c2b0, 0x86d3d2d4, 0xa00ae278, 0xbdbdf21c,
}

// Crc32 answers the cyclic sum of IEEE 802.3.
func Crc32(b []byte) uint32 {
	c := ^uint32(0)
	for _, x := range b {
		c ^= uint32(x)
		c = c>>4 ^ crcSteps[c&15]
		c = c>>4 ^ crcSteps[c&15]
	}
	return ^c
}

// Sha1 answers the sum of FIPS 180, twenty bytes.
func Sha1(b []byte) []byte {
	h := [5]uint32{0x67452301, 0xefcdab89, 0x98badcfe, 0x10325476, 0xc3d2e1f0}
	whole := len(b) - len(b)%chunk
	for i := 0; i < whole; i += chunk {
		h = mix(h, b[i:i+chunk])
	}
	end := ending(b[whole:], len(b))
	for i := 0; i < len(end); i += chunk {
		h = mix(h, end[i:i+chunk])
	}
	sum := make([]byte, 0, sumBytes)
	for _, x := range h {
		sum = append(sum, byte(x>>24), byte(x>>16), byte(x>>8), byte(x))
	}
	return sum
}

// ending answers the last chunks of a text of n bytes: what is left of it, the mark of its end, noughts, its length in bits.
func ending(rest []byte, n int) []byte {
	end := make([]byte, 0, 2*chunk)
	end = append(end, rest...)
	end = append(end, 0x80)
	for len(end)%chunk != chunk-lenBytes {
		end = append(end, 0)
	}
	for i := range lenBytes {
		end = append(end, byte(uint64(n)*8>>(8*(lenBytes-1-i))))
	}
	return end
}

// mix takes a chunk into the sum.
func mix(h [5]uint32, part []byte) [5]uint32 {
	a, b, c, d, e := h[0], h[1], h[2], h[3], h[4]
	for i, x := range spread(part) {
		f, k := blend(i, b, c, d)
		t := bits.RotateLeft32(a, 5) + f + e + k + x
		a, b, c, d, e = t, a, bits.RotateLeft32(b, 30), c, d
	}
	return [5]uint32{h[0] + a, h[1] + b, h[2] + c, h[3] + d, h[4] + e}
}

// spread answers the words of a chunk, one for each step.
func spread(part []byte) [80]uint32 {
	var w [80]uint32
	for i := range 16 {
		w[i] = uint32(part[4*i])<<24 | uint32(part[4*i+1])<<16 | uint32(part[4*i+2])<<8 | uint32(part[4*i+3])
	}
	for i := 16; i < len(w); i++ {
		w[i] = bits.RotateLeft32(w[i-3]^w[i-8]^w[i-14]^w[i-16], 1)
	}
	return w
}

// blend answers a step's f and k.
func blend(step int, b, c, d uint32) (uint32, uint32) {
	switch {
	case step < 20:
		return b&c | ^b&d, 0x5a827999
	case step < 40:
		return b ^ c ^ d, 0x6ed9eba1
	case step < 60:
		return b&c | b&d | c&d, 0x8f1bbcdc
	}
	return b ^ c ^ d, 0xca62c1d6
}

// Mac answers the keyed sum of RFC 2104 over Sha1.
func Mac(key, b []byte) []byte {
	if len(key) > chunk {
		key = Sha1(key)
	}
	inner := Sha1(append(padded(key, 0x36), b...))
	return Sha1(append(padded(key, 0x5c), inner...))
}

// padded answers a key of a chunk's length, each byte turned by pad.
func padded(key []byte, pad byte) []byte {
	p := make([]byte, chunk)
	copy(p, key)
	for i := range p {
		p[i] ^= pad
	}
	return p
}

// Hex answers two digits a byte.
func Hex(b []byte) string {
	t := make([]byte, 0, 2*len(b))
	for _, x := range b {
		t = append(t, hexDigits[x>>4], hexDigits[x&15])
	}
	return string(t)
}

// Unhex answers the bytes of such a text; false: it is none.
func Unhex(s string) ([]byte, bool) {
	if len(s)%2 != 0 {
		return nil, false
	}
	b := make([]byte, 0, len(s)/2)
	for i := 0; i < len(s); i += 2 {
		high, okHigh := hexValue(s[i])
		low, okLow := hexValue(s[i+1])
		if !okHigh || !okLow {
			return nil, false
		}
		b = append(b, high<<4|low)
	}
	return b, true
}

// hexValue answers what a digit stands for; capitals are none, since Hex answers none.
func hexValue(c byte) (byte, bool) {
	switch {
	case '0' <= c && c <= '9':
		return c - '0', true
	case 'a' <= c && c <= 'f':
		return c - 'a' + 10, true
	}
	return 0, false
}

// Base64 answers the text of RFC 4648, with = at the end.
func Base64(b []byte) string {
	t := make([]byte, 0, (len(b)+2)/3*4)
	for len(b) >= 3 {
		t = append(t, base64Four(b[0], b[1], b[2])...)
		b = b[3:]
	}
	switch len(b) {
	case 1:
		t = append(t, base64Four(b[0], 0, 0)[:2]...)
		t = append(t, "=="...)
	case 2:
		t = append(t, base64Four(b[0], b[1], 0)[:3]...)
		t = append(t, '=')
	}
	return string(t)
}

// base64Four answers the four digits of three bytes.
func base64Four(x, y, z byte) []byte {
	n := uint32(x)<<16 | uint32(y)<<8 | uint32(z)
	return []byte{base64Digits[n>>18], base64Digits[n>>12&63], base64Digits[n>>6&63], base64Digits[n&63]}
}

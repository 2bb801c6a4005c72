package ws

import (
	"bytes"
	"unicode/utf8"

	"parley/api"
)

// What a reader gives up with: wanting, if it can go on when more bytes have come; wrong, with the code, if the connection fails.
type (
	wanting struct{}
	wrong   int
)

// input is what a frame is read from.
type input struct {
	left []byte
}

// items reads until a reader gives up, or a Close is the end.
func (r *Reader) items() (l []Item) {
	defer func() {
		switch c := recover().(type) {
		case nil:
		case wanting:
			r.left = bytes.Clone(r.left) // a small rest isn't to keep the memory of all that has come
		case wrong:
			l = append(l, Item{Code: int(c)})
			r.end()
		default:
			panic(c)
		}
	}()
	for !r.dead {
		if i, ok := r.item(r.frame()); ok {
			l = append(l, i)
		}
	}
	return l
}

// end lets nothing more be read, and keeps nothing.
func (r *Reader) end() {
	*r = Reader{dead: true}
}

// frame reads the next frame as a whole, or nothing of it.
func (r *Reader) frame() Frame {
	in := input{r.left}
	head := in.take(headBytes)
	f := Frame{Fin: head[0]&finBit != 0, Op: int(head[0] & opBits), Masked: head[1]&maskedBit != 0}
	short := head[1] &^ maskedBit
	if head[0]&otherBits != 0 || f.Masked != r.masked || !r.fits(f, short) {
		panic(wrong(badFrame))
	}
	size := in.length(short)
	if f.Op < Close && size > api.MaxContent-len(r.text) {
		panic(wrong(tooBig))
	}
	if f.Masked {
		f.Mask = [4]byte(in.take(len(f.Mask)))
	}
	f.Payload = string(turned(in.take(size), f.Mask)) // the mask is nought, if there is none
	r.left = in.left
	return f
}

// fits tells whether a frame of this Op, with that byte for its length, may come now.
func (r *Reader) fits(f Frame, short byte) bool {
	switch f.Op {
	case More:
		return r.kind != 0
	case Text, Binary:
		return r.kind == 0
	case Close, Ping, Pong:
		return f.Fin && short < two
	}
	return false
}

// item takes a frame in; false: it makes nothing whole.
func (r *Reader) item(f Frame) (Item, bool) {
	switch f.Op {
	case Close:
		i := closed(f.Payload)
		r.end()
		return i, true
	case Ping, Pong:
		return Item{Kind: f.Op, Text: f.Payload}, true
	case Text, Binary:
		r.kind = f.Op
	}
	r.text += f.Payload
	if !f.Fin {
		return Item{}, false
	}
	i := Item{Kind: r.kind, Text: r.text}
	r.kind, r.text = 0, ""
	if i.Kind == Text {
		needText(i.Text)
	}
	return i, true
}

// closed answers what a Close with this payload says.
func closed(payload string) Item {
	if payload == "" {
		return Item{Kind: Close, Code: noCode}
	}
	if len(payload) < twoBytes {
		panic(wrong(badFrame))
	}
	code, reason := int(payload[0])<<8|int(payload[1]), payload[twoBytes:]
	if !isCode(code) {
		panic(wrong(badFrame))
	}
	needText(reason)
	return Item{Kind: Close, Code: code, Text: reason}
}

// isCode tells whether a Close may say this code.
func isCode(code int) bool {
	return code >= 1000 && code <= 1003 || code >= 1007 && code <= 1011 || code >= 3000 && code <= 4999
}

func needText(s string) {
	if !utf8.ValidString(s) {
		panic(wrong(badText))
	}
}

// length reads what is left of a length. One in eight bytes is never small enough, but all of them must be there to tell whether it is out of form, which comes first.
func (in *input) length(short byte) int {
	switch short {
	case two:
		n := in.number(twoBytes)
		if n < two {
			panic(wrong(badFrame))
		}
		return int(n)
	case eight:
		n := in.number(eightBytes)
		if n <= maxTwo || n>>63 != 0 {
			panic(wrong(badFrame))
		}
		panic(wrong(tooBig))
	}
	return int(short)
}

// number reads a number of so many bytes.
func (in *input) number(size int) uint64 {
	n := uint64(0)
	for _, x := range in.take(size) {
		n = n<<8 | uint64(x)
	}
	return n
}

// take answers the next n bytes, where they lie.
func (in *input) take(n int) []byte {
	if n > len(in.left) {
		panic(wanting{})
	}
	b := in.left[:n]
	in.left = in.left[n:]
	return b
}

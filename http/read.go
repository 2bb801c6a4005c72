package http

import (
	"bytes"
	"strconv"

	"parley/api"
)

// What a reader gives up with: wanting, if it can go on when more bytes have come; wrong, with the code, if what has come is no request.
type (
	wanting struct{}
	wrong   int
)

const (
	headEnd      = crlf + crlf
	maxChunkLine = 10 // bytes, its CRLF among them
)

// draft is what has been read of a request.
type draft struct {
	req     Request
	begun   bool // its head has been read
	chunked bool // its body comes in chunks
	size    int  // else: how many bytes its body has
}

// items reads until a reader gives up.
func (p *Parser) items() (l []Item) {
	defer func() {
		switch c := recover().(type) {
		case wanting:
			p.left = bytes.Clone(p.left) // a small rest isn't to keep the memory of all that has come
		case wrong:
			l = append(l, Item{Code: int(c)})
			*p = Parser{dead: true}
		default:
			panic(c)
		}
	}()
	for {
		l = append(l, Item{Req: p.request()})
	}
}

// request reads what is left of a request. Where it gives up for want of bytes, what it has read stays read.
func (p *Parser) request() Request {
	if !p.next.begun {
		head := p.upTo(headEnd, api.MaxHead, bigHead)
		p.next = readHead(head)
		p.take(len(head) + len(headEnd))
	}
	if p.next.chunked {
		for p.chunk() {
		}
	} else {
		p.next.req.Body = string(p.take(p.next.size))
	}
	r := p.next.req
	r.Heads = append([]Head(nil), r.Heads...) // a copy of the Parser may answer them too
	p.next = draft{}
	return r
}

// chunk reads a chunk as a whole, or nothing of it; false: it was the last one.
func (p *Parser) chunk() bool {
	line := p.upTo(crlf, maxChunkLine, badRequest)
	size := chunkSize(line)
	if size > api.MaxContent-len(p.next.req.Body) {
		panic(wrong(bigBody))
	}
	from := len(line) + len(crlf)
	end := from + size
	for i := range len(crlf) {
		p.expect(end+i, crlf[i])
	}
	b := p.take(end + len(crlf))
	p.next.req.Body += string(b[from:end])
	return size > 0
}

// upTo answers what stands ahead of an end; if that isn't within the first most bytes, this is wrong with code.
func (p *Parser) upTo(end string, most, code int) string {
	i := bytes.Index(p.left[:min(len(p.left), most)], []byte(end))
	if i >= 0 {
		return string(p.left[:i])
	}
	if len(p.left) >= most {
		panic(wrong(code))
	}
	panic(wanting{})
}

// expect holds the byte at a place against what must be there.
func (p *Parser) expect(at int, c byte) {
	if at >= len(p.left) {
		panic(wanting{})
	}
	need(p.left[at] == c)
}

// take answers the next n bytes, where they lie; they are read then.
func (p *Parser) take(n int) []byte {
	if n > len(p.left) {
		panic(wanting{})
	}
	b := p.left[:n]
	p.left = p.left[n:]
	return b
}

// chunkSize answers what the line ahead of a chunk says.
func chunkSize(line string) int {
	n, err := strconv.ParseUint(line, 16, 32) // of so short a line it takes digits alone, and any eight of them
	need(err == nil)
	return int(n)
}

// need gives up, if what has come isn't as it must be.
func need(ok bool) {
	if !ok {
		panic(wrong(badRequest))
	}
}

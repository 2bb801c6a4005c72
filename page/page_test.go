package page

import (
	"bytes"
	"fmt"
	"math"
	"math/rand"
	"slices"
	"strings"
	"testing"

	"parley/api"
)

func check(t *testing.T, what string, got, want any) {
	t.Helper()
	if g, w := fmt.Sprint(got), fmt.Sprint(want); g != w {
		t.Errorf("%s: %.300s, not %.300s", what, g, w)
	}
}

func same(a, b api.Node) bool {
	return a.Leaf == b.Leaf && slices.Equal(a.Keys, b.Keys) && slices.Equal(a.Vals, b.Vals) && slices.Equal(a.Kids, b.Kids)
}

func isZero(n api.Node) bool {
	return same(n, api.Node{})
}

// long is a text of so many bytes.
func long(n int) string {
	return strings.Repeat("x", n)
}

// leaf is one of keys and values in turn.
func leaf(pairs ...string) api.Node {
	n := api.Node{Leaf: true}
	for i := 0; i < len(pairs); i += 2 {
		n.Keys = append(n.Keys, pairs[i])
		n.Vals = append(n.Vals, pairs[i+1])
	}
	return n
}

// branch has these keys, and kids that have nothing in common.
func branch(keys ...string) api.Node {
	n := api.Node{Keys: keys}
	for i := range len(keys) + 1 {
		n.Kids = append(n.Kids, (i*797+7)%2048)
	}
	return n
}

func withKids(n api.Node, kids ...int) api.Node {
	n.Kids = kids
	return n
}

func withVals(n api.Node, vals ...string) api.Node {
	n.Vals = vals
	return n
}

// copyOf is the node in memory of its own.
func copyOf(n api.Node) api.Node {
	return api.Node{Leaf: n.Leaf, Keys: slices.Clone(n.Keys), Vals: slices.Clone(n.Vals), Kids: slices.Clone(n.Kids)}
}

// numbered are so many keys of so many bytes, rising.
func numbered(count, size int) []string {
	var l []string
	for i := range count {
		l = append(l, fmt.Sprintf("%0*d", size, i))
	}
	return l
}

func randomText(r *rand.Rand, n int) string {
	b := make([]byte, n)
	for i := range b {
		b[i] = "\x00\x01abcAB\x7f\x80\xff"[r.Intn(10)]
	}
	return string(b)
}

// randomNode is one in form with up to so many keys, some of them short, some long.
func randomNode(r *rand.Rand, isLeaf bool, most int) api.Node {
	n := api.Node{Leaf: isLeaf}
	keyBytes, valBytes := 1+r.Intn(20), r.Intn(101)
	for range r.Intn(most + 1) {
		n.Keys = append(n.Keys, randomText(r, 1+r.Intn(keyBytes)))
	}
	if len(n.Keys) == 0 && !isLeaf {
		n.Keys = []string{"k"}
	}
	slices.Sort(n.Keys)
	n.Keys = slices.Compact(n.Keys)
	if !isLeaf {
		for range len(n.Keys) + 1 {
			n.Kids = append(n.Kids, r.Intn(2048))
		}
		return n
	}
	for range n.Keys {
		n.Vals = append(n.Vals, randomText(r, r.Intn(valBytes+1)))
	}
	return n
}

// write is the node's bytes without the noughts, as the document has them.
func write(n api.Node) []byte {
	var b bytes.Buffer
	kid := func(x int) { b.Write([]byte{byte(x % 256), byte(x / 256)}) }
	text := func(s string) { b.WriteByte(byte(len(s))); b.WriteString(s) }
	if n.Leaf {
		b.Write([]byte{1, byte(len(n.Keys))})
		for i := range n.Keys {
			text(n.Keys[i])
			text(n.Vals[i])
		}
		return b.Bytes()
	}
	b.Write([]byte{2, byte(len(n.Keys))})
	kid(n.Kids[0])
	for i := range n.Keys {
		text(n.Keys[i])
		kid(n.Kids[i+1])
	}
	return b.Bytes()
}

// block is these bytes, and noughts behind them.
func block(b ...byte) []byte {
	return append(slices.Clone(b), make([]byte, 256-len(b))...)
}

// read is the node of a block, byte by byte; false: it is no node's.
func read(b []byte) (api.Node, bool) {
	n := api.Node{Leaf: b[0] == 1}
	if b[0] != 1 && b[0] != 2 || b[0] == 2 && b[1] == 0 {
		return api.Node{}, false
	}
	at := 2
	text := func(most int) (string, bool) {
		if at >= 256 || int(b[at]) > most || at+1+int(b[at]) > 256 {
			return "", false
		}
		s := string(b[at+1 : at+1+int(b[at])])
		at += 1 + len(s)
		return s, true
	}
	kid := func() bool {
		if at+2 > 256 || b[at+1] > 7 {
			return false
		}
		n.Kids = append(n.Kids, int(b[at])+256*int(b[at+1]))
		at += 2
		return true
	}
	if !n.Leaf {
		if !kid() {
			return api.Node{}, false
		}
	}
	for i := range int(b[1]) {
		k, ok := text(20)
		if !ok || k == "" || i > 0 && k <= n.Keys[i-1] {
			return api.Node{}, false
		}
		n.Keys = append(n.Keys, k)
		if n.Leaf {
			v, ok := text(100)
			if !ok {
				return api.Node{}, false
			}
			n.Vals = append(n.Vals, v)
		} else if !kid() {
			return api.Node{}, false
		}
	}
	return n, len(bytes.Trim(b[at:], "\x00")) == 0
}

// wrong are nodes that aren't in form, with their sizes.
func wrong() map[string]struct {
	n    api.Node
	size int
} {
	type c = struct {
		n    api.Node
		size int
	}
	return map[string]c{
		"falling keys":                     {leaf("b", "", "a", ""), 8},
		"falling behind rising":            {leaf("a", "", "c", "", "b", ""), 11},
		"a key twice":                      {leaf("a", "1", "a", "1"), 10},
		"a key twice at the end":           {leaf("a", "", "b", "", "b", ""), 11},
		"the longer one first":             {leaf("aa", "", "a", ""), 9},
		"high bytes ahead of low ones":     {leaf("\xff", "", "a", ""), 8},
		"an empty key":                     {leaf("", "1"), 5},
		"an empty key of several":          {leaf("", "", "a", ""), 7},
		"a key of 21 bytes":                {leaf(long(21), ""), 25},
		"the last key of 21 bytes":         {leaf("a", "", long(21), ""), 28},
		"a key of 300 bytes":               {leaf(long(300), ""), 304},
		"a value of 101 bytes":             {leaf("a", long(101)), 106},
		"the last value of 101 bytes":      {leaf("a", "", "b", long(101)), 109},
		"the first value of 101 bytes":     {leaf("a", long(101), "b", ""), 109},
		"no value":                         {withVals(leaf("a", "")), 4},
		"a value too few":                  {withVals(leaf("a", "", "b", ""), "12"), 9},
		"a value too many":                 {withVals(leaf("a", ""), "12", "34"), 7},
		"a value and no key":               {withVals(leaf(), "12"), 2},
		"a leaf with a kid":                {withKids(leaf("a", "1"), 3), 6},
		"a leaf with kids like a branch":   {withKids(leaf("a", "1"), 3, 4), 6},
		"an empty leaf with a kid":         {withKids(leaf(), 3), 2},
		"nothing":                          {api.Node{}, 4},
		"a branch without keys":            {withKids(branch(), 3), 4},
		"a branch without kids":            {withKids(branch("a")), 8},
		"a kid too few":                    {withKids(branch("a"), 1), 8},
		"two kids too few":                 {withKids(branch("a", "b"), 1), 12},
		"a kid too many":                   {withKids(branch("a"), 1, 2, 3), 8},
		"the first kid -1":                 {withKids(branch("a"), -1, 2), 8},
		"the last kid -1":                  {withKids(branch("a"), 1, -1), 8},
		"the first kid 2048":               {withKids(branch("a"), 2048, 2), 8},
		"the last kid 2048":                {withKids(branch("a"), 1, 2048), 8},
		"a kid of 65536 and one":           {withKids(branch("a"), 65537, 2), 8},
		"the greatest kid":                 {withKids(branch("a"), 1, math.MaxInt), 8},
		"the least kid":                    {withKids(branch("a"), math.MinInt, 1), 8},
		"a branch with values":             {withVals(branch("a"), "12"), 8},
		"a branch with an empty value":     {withVals(branch("a"), ""), 8},
		"a branch's falling keys":          {branch("b", "a"), 12},
		"a branch's key twice":             {branch("a", "b", "b"), 16},
		"a branch's empty key":             {branch("", "a"), 11},
		"a branch's key of 21 bytes":       {branch(long(21)), 28},
		"falling keys, and too great":      {leaf("c", long(100), "b", long(100), "a", long(100)), 311},
		"a kid of 2048, and too great":     {withKids(branch(numbered(32, 5)...), slices.Repeat([]int{2048}, 33)...), 260},
		"a value of 101, and too great":    {leaf("a", long(101), "b", long(101), "c", long(101)), 314},
		"a leaf's keys, a branch's kids":   {api.Node{Leaf: true, Keys: []string{"a"}, Kids: []int{1, 2}}, 4},
		"a branch's keys, a leaf's values": {api.Node{Keys: []string{"a"}, Vals: []string{"1"}}, 8},
	}
}

func TestP8_1SizeOfAny(t *testing.T) {
	for what, c := range wrong() {
		check(t, "Size: "+what, Size(c.n), c.size)
	}
	for _, c := range []struct {
		n    api.Node
		size int
	}{
		{leaf(), 2},
		{leaf("a", "1", "b", ""), 9},
		{leaf("a", ""), 5},
		{leaf(long(20), long(100)), 124},
		{withKids(branch("m"), 7, 9), 8},
		{branch(long(20)), 27},
		{branch("a", "bcd", "e"), 4 + 4 + 6 + 4},
		{withVals(leaf("a", "", "b", "", "c", ""), "xy", "z"), 2 + 5 + 4 + 2},
		{withVals(leaf("a", ""), "", long(1000)), 5},
	} {
		check(t, fmt.Sprintf("Size(%v)", c.n), Size(c.n), c.size)
	}
	r := rand.New(rand.NewSource(81))
	for range 2000 {
		n := randomNode(r, r.Intn(2) == 0, 30)
		check(t, fmt.Sprintf("Size(%v)", n), Size(n), len(write(n)))
	}
}

// edges are nodes in form whose Size is just 256, and the same with a byte more.
func edges() (fit, big []api.Node) {
	fit = []api.Node{
		leaf("a", long(100), "b", long(100), "c", long(45)),
		leaf(long(20), long(100), "y", long(100), "z", long(26)),
		branch(slices.Concat(numbered(10, 20), []string{"1" + long(18)})...),
		branch(numbered(42, 3)...),
	}
	var small []string // the greatest counts: a leaf of 84 keys of a byte, a branch of 63
	for i := range 84 {
		small = append(small, string([]byte{byte(i)}), "")
	}
	small[1] = "12"
	fit = append(fit, leaf(small...))
	keys := []string{}
	for i := range 63 {
		keys = append(keys, string([]byte{byte(i + 100)}))
	}
	fit = append(fit, branch(keys...))
	for _, n := range fit {
		m := copyOf(n)
		m.Keys[len(m.Keys)-1] += "z"
		big = append(big, m)
	}
	return fit, big
}

func TestP8_1Check(t *testing.T) {
	for what, c := range wrong() {
		check(t, "Check: "+what, Check(c.n), api.ErrForm)
	}
	fit, big := edges()
	for _, n := range fit {
		check(t, fmt.Sprintf("Size(%v)", n), Size(n), 256)
		check(t, fmt.Sprintf("Check(%v)", n), Check(n), api.OK)
	}
	for _, n := range big {
		check(t, fmt.Sprintf("Size(%v)", n), Size(n), 257)
		check(t, fmt.Sprintf("Check(%v)", n), Check(n), api.ErrBig)
	}
	for _, n := range []api.Node{
		leaf(),
		{Leaf: true, Keys: []string{}, Vals: []string{}, Kids: []int{}},
		leaf("\x00", ""),
		leaf("a", "", "a\x00", "", "aa", "", "b", "", "\x7f", "", "\x80", "", "\xff", ""),
		leaf(long(20), long(100)),
		branch("a"),
		withKids(branch("a"), 0, 2047),
		withKids(branch("a", "b"), 5, 5, 5), // nobody asks kids to differ
		withVals(branch("a"), []string{}...),
		branch(long(20)),
	} {
		check(t, fmt.Sprintf("Check(%q)", n.Keys), Check(n), api.OK)
	}
	for _, n := range []api.Node{
		leaf("a", long(100), "b", long(100), "c", long(100)),
		branch(numbered(64, 2)...),
		branch(numbered(1000, 20)...),
	} {
		check(t, fmt.Sprintf("Check of %d bytes", Size(n)), Check(n), api.ErrBig)
	}
	many := leaf()
	for _, k := range numbered(257, 3) { // a count of which a byte would say 1
		many.Keys, many.Vals = append(many.Keys, k), append(many.Vals, "")
	}
	check(t, "Check of 257 keys", Check(many), api.ErrBig)
}

func TestP8_2Encode(t *testing.T) {
	for what, c := range map[string]struct {
		n    api.Node
		want []byte
	}{
		"the document's leaf":   {leaf("a", "1", "b", ""), []byte{1, 2, 1, 0x61, 1, 0x31, 1, 0x62, 0}},
		"the document's branch": {withKids(branch("m"), 7, 9), []byte{2, 1, 7, 0, 1, 0x6d, 9, 0}},
		"an empty leaf":         {leaf(), []byte{1, 0}},
		"kids of two bytes":     {withKids(branch("a", "bc"), 256, 2047, 0x123), []byte{2, 2, 0, 1, 1, 0x61, 0xff, 7, 2, 0x62, 0x63, 0x23, 1}},
		"texts of any bytes":    {leaf("\x00\xff", "\x00\x00"), []byte{1, 1, 2, 0, 0xff, 2, 0, 0}},
	} {
		b, e := Encode(c.n)
		if e != api.OK || !bytes.Equal(b, block(c.want...)) {
			t.Errorf("Encode: %s: %x, %d; not %x", what, b, e, c.want)
		}
	}
	for what, c := range wrong() {
		if b, e := Encode(c.n); len(b) != 0 || e != api.ErrForm {
			t.Errorf("Encode: %s: %x, %d", what, b, e)
		}
	}
	fit, big := edges()
	for _, n := range fit {
		if b, e := Encode(n); e != api.OK || !bytes.Equal(b, write(n)) {
			t.Errorf("Encode(%v): %x, %d", n, b, e)
		}
	}
	for _, n := range big {
		if b, e := Encode(n); len(b) != 0 || e != api.ErrBig {
			t.Errorf("Encode(%v): %x, %d", n, b, e)
		}
	}
}

func TestP8_2ThereAndBack(t *testing.T) {
	fit, _ := edges()
	r := rand.New(rand.NewSource(82))
	for range 5000 {
		fit = append(fit, randomNode(r, r.Intn(2) == 0, 1+r.Intn(25)))
	}
	for _, n := range fit {
		b, e := Encode(n)
		if len(write(n)) > 256 {
			if len(b) != 0 || e != api.ErrBig {
				t.Fatalf("Encode(%v): %x, %d", n, b, e)
			}
			continue
		}
		if e != api.OK || !bytes.Equal(b, block(write(n)...)) {
			t.Fatalf("Encode(%v): %x, %d", n, b, e)
		}
		if back, e := Decode(b); e != api.OK || !same(back, n) {
			t.Fatalf("Decode(%x): %v, %d; not %v", b, back, e, n)
		}
	}
}

func TestP8_2DecodeNoBlock(t *testing.T) {
	good := block(write(leaf("a", "1"))...)
	for _, b := range [][]byte{nil, {}, {1}, {1, 0}, good[:9], good[:255], append(slices.Clone(good), 0), make([]byte, 255), make([]byte, 257), make([]byte, 512), bytes.Repeat([]byte{9}, 257)} {
		if n, e := Decode(b); e != api.ErrArg || !isZero(n) {
			t.Errorf("Decode of %d bytes: %v, %d", len(b), n, e)
		}
	}
}

// cut is a leaf's block that is full up to its last bytes, which are these; a key comes next.
func cut(keys int, last ...byte) []byte {
	b := []byte{1, byte(keys + 3)}
	rest := 254 - len(last) - 2*103
	for i, v := range []int{100, 100, rest - 3} {
		b = append(append(b, 1, byte('a'+i), byte(v)), long(v)...)
	}
	return append(b, last...)
}

// cutBranch is a branch's block that has 6 bytes left for its last key and kid.
func cutBranch(last ...byte) []byte {
	b := write(branch(numbered(41, 3)...))
	b[1]++
	return append(b, last...)
}

func TestP8_2DecodeForm(t *testing.T) {
	full, _ := edges()
	for what, b := range map[string][]byte{
		"noughts":                            block(),
		"mark 0, a leaf behind it":           block(0, 1, 1, 'a', 0),
		"mark 3":                             block(3, 1, 1, 'a', 0),
		"mark 255":                           block(255, 0),
		"ones":                               bytes.Repeat([]byte{255}, 256),
		"an empty leaf, then something":      block(1, 0, 1),
		"an empty leaf, the last byte":       append(block(1, 0)[:255], 1),
		"a leaf, a key too many":             block(1, 1, 1, 'a', 0, 1, 'b', 0),
		"a leaf, a key too few":              block(1, 3, 1, 'a', 0, 1, 'b', 0),
		"a leaf, 255 keys":                   block(1, 255, 1, 'a', 0),
		"a leaf, an empty key":               block(1, 1, 0, 1, 'a'),
		"a leaf, an empty key and value":     block(1, 1),
		"a leaf, a key of 21 bytes":          block(append([]byte{1, 1, 21}, bytes.Repeat([]byte{'a'}, 22)...)...),
		"a leaf, a value of 101 bytes":       block(append([]byte{1, 1, 1, 'a', 101}, bytes.Repeat([]byte{'a'}, 101)...)...),
		"a leaf, falling keys":               block(1, 2, 1, 'b', 0, 1, 'a', 0),
		"a leaf, a key twice":                block(1, 2, 1, 'a', 0, 1, 'a', 0),
		"a leaf, a key's length at the end":  cut(1, 1),
		"a leaf, a key beyond the end":       cut(1, 2, 'z'),
		"a leaf, a key up to the end":        cut(1, 2, 'z', 'z'),
		"a leaf, a value beyond the end":     cut(1, 2, 'z', 'z', 1),
		"a leaf, two values beyond the end":  cut(1, 2, 'z', 'z', 9, 'v'),
		"a leaf, a key wanting at the end":   cut(1),
		"a leaf, all bytes after lengths":    append([]byte{1, 200}, bytes.Repeat([]byte{40}, 254)...),
		"a branch without keys":              block(2, 0, 7, 0),
		"a branch of noughts":                block(2),
		"a branch, a key too many":           block(2, 1, 7, 0, 1, 'm', 9, 0, 1, 'n', 9, 0),
		"a branch, a key too few":            block(2, 2, 7, 0, 1, 'm', 9, 0),
		"a branch, 255 keys":                 block(2, 255, 7, 0, 1, 'm', 9, 0),
		"a branch, an empty key":             block(2, 1, 7, 0, 0, 9, 0),
		"a branch, a key of 21 bytes":        block(append([]byte{2, 1, 7, 0, 21}, bytes.Repeat([]byte{'a'}, 21)...)...),
		"a branch, falling keys":             block(2, 2, 7, 0, 1, 'n', 8, 0, 1, 'm', 9, 0),
		"a branch, a key twice":              block(2, 2, 7, 0, 1, 'm', 8, 0, 1, 'm', 9, 0),
		"a branch, the first kid 2048":       block(2, 1, 0, 8, 1, 'm', 9, 0),
		"a branch, the first kid 65535":      block(2, 1, 255, 255, 1, 'm', 9, 0),
		"a branch, the last kid 2048":        block(2, 1, 7, 0, 1, 'm', 0, 8),
		"a branch, the last kid 65535":       block(2, 1, 7, 0, 1, 'm', 255, 255),
		"a branch, the last byte":            append(block(2, 1, 7, 0, 1, 'm', 9, 0)[:255], 1),
		"a full branch, a key more":          append([]byte{2, 64}, write(full[5])[2:]...),
		"a leaf's bytes under a branch":      block(2, 1, 1, 'a', 0),
		"a branch's bytes under a leaf":      block(1, 1, 0, 3, 1, 'm', 9, 0),
		"a branch, a key up to the end":      cutBranch(5, 'a', 'b', 'c', 'd', 'e'),
		"a branch, half a kid at the end":    cutBranch(4, 'a', 'b', 'c', 'd', 9),
		"a branch, a key beyond the end":     cutBranch(6, 'a', 'b', 'c', 'd', 'e'),
		"a leaf's value's length at the end": cut(1, 1, 'z', 5),
	} {
		if n, e := Decode(b); e != api.ErrForm || !isZero(n) {
			t.Errorf("Decode: %s: %x: %v, %d", what, b, n, e)
		}
	}
	for _, b := range [][]byte{block(1), block(1, 0), cut(0), cut(1, 1, 'z', 0), cut(1, 2, 'z', 'z', 3, 1, 2, 3), cutBranch(3, 'a', 'b', 'c', 9, 0)} {
		want, _ := read(b)
		if n, e := Decode(b); e != api.OK || !same(n, want) {
			t.Errorf("Decode: %x: %v, %d", b, n, e)
		}
	}
	for _, n := range full {
		if back, e := Decode(write(n)); e != api.OK || !same(back, n) {
			t.Errorf("Decode of a full one: %v, %d; not %v", back, e, n)
		}
	}
}

// decodeAs holds Decode against the test's own reader.
func decodeAs(t *testing.T, b []byte) bool {
	t.Helper()
	n, e := Decode(b)
	want, ok := read(b)
	if !ok {
		if e != api.ErrForm || !isZero(n) {
			t.Fatalf("Decode(%x): %v, %d", b, n, e)
		}
		return false
	}
	if e != api.OK || !same(n, want) {
		t.Fatalf("Decode(%x): %v, %d; not %v", b, n, e, want)
	}
	return true
}

// TestP8_2DecodeAltered puts each byte into each place of a few blocks.
func TestP8_2DecodeAltered(t *testing.T) {
	full, _ := edges()
	blocks := [][]byte{block(1), block(write(leaf("a", "1", "b", ""))...), block(write(withKids(branch("m", "n"), 7, 9, 2047))...)}
	for _, n := range full {
		blocks = append(blocks, write(n))
	}
	for _, b := range blocks {
		for i := range b {
			was := b[i]
			for x := range 256 {
				b[i] = byte(x)
				decodeAs(t, b)
			}
			b[i] = was
		}
	}
}

func TestP8_2DecodeRandom(t *testing.T) {
	r := rand.New(rand.NewSource(83))
	good := 0
	for range 100000 {
		b := block()
		for i := range r.Intn(24) { // small numbers, so that it is often nearly one
			b[i] = byte(r.Intn(6))
		}
		b[0] = byte(1 + r.Intn(2))
		if decodeAs(t, b) {
			good++
		}
	}
	for range 20000 {
		b := block(1, byte(r.Intn(90)))
		for i := 2; i < 256; i++ {
			b[i] = byte(r.Intn(256) >> r.Intn(8))
		}
		decodeAs(t, b)
		b[0] = 2
		decodeAs(t, b)
	}
	if good < 1000 {
		t.Errorf("only %d were blocks of nodes", good)
	}
}

// probes are keys at, between and beyond those of a node.
func probes(r *rand.Rand, n api.Node) []string {
	l := []string{"\x00", "a", "m", "\xff", long(20), randomText(r, 1+r.Intn(20))}
	for _, k := range n.Keys {
		l = append(l, k, k[:len(k)-1], k+"\x00", k[:len(k)-1]+"\xff")
	}
	return slices.DeleteFunc(l, func(k string) bool { return len(k) < 1 || len(k) > 20 })
}

func TestP8_3Find(t *testing.T) {
	r := rand.New(rand.NewSource(84))
	for range 2000 {
		n := randomNode(r, r.Intn(2) == 0, 12)
		for _, k := range append(probes(r, n), "", long(21), "\xff"+long(40)) {
			below, is := 0, false
			for _, x := range n.Keys {
				if x < k {
					below++
				}
				is = is || x == k
			}
			if i, ok := Find(n, k); i != below || ok != is {
				t.Fatalf("Find(%q, %q): %d, %t; not %d, %t", n.Keys, k, i, ok, below, is)
			}
		}
	}
	n := leaf("b", "1", "d", "2")
	for k, want := range map[string][]any{"": {0, false}, "a": {0, false}, "b": {0, true}, "ba": {1, false}, "c": {1, false}, "d": {1, true}, "e": {2, false}} {
		i, ok := Find(n, k)
		check(t, "Find "+k, []any{i, ok}, want)
		i, ok = Find(branch("b", "d"), k)
		check(t, "Find in a branch "+k, []any{i, ok}, want)
	}
	i, ok := Find(leaf(), "a")
	check(t, "Find in an empty leaf", []any{i, ok}, []any{0, false})
}

// leafOf is the leaf of such a map.
func leafOf(m map[string]string) api.Node {
	n := leaf()
	for k := range m {
		n.Keys = append(n.Keys, k)
	}
	slices.Sort(n.Keys)
	for _, k := range n.Keys {
		n.Vals = append(n.Vals, m[k])
	}
	return n
}

func TestP8_3SetUnsetExamples(t *testing.T) {
	n := leaf("b", "1", "d", "2")
	for k, want := range map[string]api.Node{
		"a": leaf("a", "9", "b", "1", "d", "2"),
		"b": leaf("b", "9", "d", "2"),
		"c": leaf("b", "1", "c", "9", "d", "2"),
		"d": leaf("b", "1", "d", "9"),
		"e": leaf("b", "1", "d", "2", "e", "9"),
	} {
		check(t, "Set "+k, Set(n, k, "9"), want)
	}
	check(t, "Set in an empty leaf", Set(leaf(), "a", ""), leaf("a", ""))
	check(t, "Set of an empty value", Set(n, "b", ""), leaf("b", "", "d", "2"))
	check(t, "Set of the same", Set(n, "b", "1"), n)
	for k, want := range map[string][]any{
		"a": {n, false}, "b": {leaf("d", "2"), true}, "c": {n, false}, "d": {leaf("b", "1"), true}, "e": {n, false}, "": {n, false},
	} {
		m, ok := Unset(n, k)
		check(t, "Unset "+k, []any{m, ok}, want)
	}
	m, ok := Unset(leaf("a", "1"), "a")
	check(t, "Unset of the last one", []any{m, ok}, []any{leaf(), true})
	m, ok = Unset(leaf(), "a")
	check(t, "Unset in an empty leaf", []any{m, ok}, []any{leaf(), false})
}

// TestP8_3SetUnsetRandom sets and unsets far beyond what a block holds.
func TestP8_3SetUnsetRandom(t *testing.T) {
	r := rand.New(rand.NewSource(85))
	for range 60 {
		n, m := leaf(), map[string]string{}
		keys := 1 + r.Intn(4)
		for range 120 {
			k := randomText(r, 1+r.Intn(keys))
			if r.Intn(3) > 0 {
				v := randomText(r, r.Intn(101))
				n, m[k] = Set(n, k, v), v
			} else {
				_, was := m[k]
				delete(m, k)
				var ok bool
				if n, ok = Unset(n, k); ok != was {
					t.Fatalf("Unset(%q, %q): %t", n.Keys, k, ok)
				}
			}
			if !same(n, leafOf(m)) {
				t.Fatalf("behind %q: %v, not %v", k, n, leafOf(m))
			}
		}
	}
	great := leaf()
	for _, k := range numbered(3000, 4) {
		great = Set(great, k, long(100))
	}
	check(t, "Set above 256 bytes: keys", great.Keys, numbered(3000, 4))
	check(t, "its Size", Size(great), 2+3000*106)
	less, ok := Unset(great, "1234")
	check(t, "Unset above 256 bytes", []any{len(less.Keys), ok, Size(less)}, []any{2999, true, 2 + 2999*106})
}

// cutAt is what the document says of a node parted at that number.
func cutAt(n api.Node, at int) (api.Node, string, api.Node) {
	if n.Leaf {
		return api.Node{Leaf: true, Keys: n.Keys[:at], Vals: n.Vals[:at]}, n.Keys[at], api.Node{Leaf: true, Keys: n.Keys[at:], Vals: n.Vals[at:]}
	}
	return api.Node{Keys: n.Keys[:at], Kids: n.Kids[:at+1]}, n.Keys[at], api.Node{Keys: n.Keys[at+1:], Kids: n.Kids[at+1:]}
}

// halves tries each place.
func halves(n api.Node) (api.Node, string, api.Node) {
	last := len(n.Keys) - 1
	if !n.Leaf {
		last--
	}
	best, least := 0, math.MaxInt
	for at := 1; at <= last; at++ {
		a, _, b := cutAt(n, at)
		if size := max(len(write(a)), len(write(b))); size < least {
			best, least = at, size
		}
	}
	return cutAt(n, best)
}

func halveAs(t *testing.T, n api.Node) {
	t.Helper()
	a, k, b := Halve(n)
	wa, wk, wb := halves(n)
	if !same(a, wa) || k != wk || !same(b, wb) {
		t.Fatalf("Halve(%v): %q, %q, %q; not %q, %q, %q", n, a.Keys, k, b.Keys, wa.Keys, wk, wb.Keys)
	}
	if Size(n) <= 378 && (Check(a) != api.OK || Check(b) != api.OK) {
		t.Fatalf("Halve(%v): halves of %d and %d bytes", n, Size(a), Size(b))
	}
}

// canHalve tells whether there are keys enough.
func canHalve(n api.Node) bool {
	return n.Leaf && len(n.Keys) >= 2 || len(n.Keys) >= 3
}

func TestP8_4HalveExamples(t *testing.T) {
	v := long(80)
	for what, c := range map[string]struct {
		n    api.Node
		at   int
		a, b int // their sizes
	}{
		"the document's":                      {leaf("a", v, "b", v, "c", v), 1, 85, 168},
		"two keys":                            {leaf("a", "", "b", ""), 1, 5, 5},
		"two keys, the first great":           {leaf("a", long(100), "b", ""), 1, 105, 5},
		"two keys, the last great":            {leaf("a", "", "b", long(100)), 1, 5, 105},
		"four alike":                          {leaf("a", v, "b", v, "c", v, "d", v), 2, 168, 168},
		"five alike: the least of two":        {leaf("a", v, "b", v, "c", v, "d", v, "e", v), 2, 168, 251},
		"a great first one":                   {leaf("a", long(90), "b", "", "c", "", "d", "1"), 1, 95, 12},
		"a great last one":                    {leaf("a", "", "b", "", "c", "", "d", long(90)), 3, 11, 95},
		"a great middle one: the least":       {leaf("a", "", "b", long(90), "c", ""), 1, 5, 98},
		"a branch of three":                   {branch("a", "b", "c"), 1, 8, 8},
		"a branch of four: the least":         {branch("a", "b", "c", "d"), 1, 8, 12},
		"a branch of five":                    {branch("a", "b", "c", "d", "e"), 2, 12, 12},
		"a branch, a great key goes up":       {branch("a", "b"+long(19), "c"), 1, 8, 8},
		"a branch, a great key at its end":    {branch("a", "b", "c", "d"+long(19)), 2, 12, 27},
		"a branch, a great key at its begin":  {branch("a"+long(19), "b", "c", "d"), 1, 27, 12},
		"a branch, equal by the key between":  {branch("a"+long(9), "b"+long(9), "c", "d"), 1, 17, 12},
		"a branch, the key between is longer": {branch("a", "b", "c"+long(9), "d", "e"), 2, 12, 12},
	} {
		a, k, b := Halve(c.n)
		wa, wk, wb := cutAt(c.n, c.at)
		check(t, "Halve: "+what, []any{a, k, b, Size(a), Size(b)}, []any{wa, wk, wb, c.a, c.b})
		halveAs(t, c.n)
	}
}

func TestP8_4HalveRandom(t *testing.T) {
	r := rand.New(rand.NewSource(86))
	for i := range 6000 {
		n := randomNode(r, i%2 == 0, 3+r.Intn(40))
		if canHalve(n) {
			halveAs(t, n)
		}
	}
	for range 30 { // far above a block
		halveAs(t, branch(numbered(3+r.Intn(900), 1+r.Intn(17)+3)...))
		n := randomNode(r, true, 900)
		if canHalve(n) {
			halveAs(t, n)
		}
	}
}

// TestP8_4HalvesFit goes through leaves of great and small pairs in any order, up to 378 bytes.
func TestP8_4HalvesFit(t *testing.T) {
	r := rand.New(rand.NewSource(87))
	greatest := 0
	for range 40000 {
		n := leaf()
		for i := 0; i < 26; i++ {
			k := string([]byte{byte('a' + i)}) + long(r.Intn(2)*19)
			v := []int{0, 0, 1, r.Intn(101), 99, 100}[r.Intn(6)]
			if room := 378 - Size(n) - len(k) - 2; room < v { // up to the brim
				v = room
			}
			if v < 0 {
				break
			}
			n.Keys, n.Vals = append(n.Keys, k), append(n.Vals, long(v))
		}
		greatest = max(greatest, Size(n))
		if canHalve(n) {
			halveAs(t, n)
		}
	}
	check(t, "the greatest Size tried", greatest, 378)
	for sizes := range 1 << 16 { // branches of 16 long and short keys
		if sizes%7 != 0 {
			continue
		}
		n := branch()
		for i := range 16 {
			n.Keys = append(n.Keys, string([]byte{byte('a' + i)})+long(sizes>>i&1*19))
			n.Kids = append(n.Kids, i)
		}
		halveAs(t, n)
	}
}

// watched is a node whose lists have marks behind them, and a look whether all of it still stands.
func watched(n api.Node) (api.Node, func() bool) {
	keys, vals, kids := append(slices.Clone(n.Keys), "?", "?", "?"), append(slices.Clone(n.Vals), "?", "?", "?"), append(slices.Clone(n.Kids), -5, -5, -5)
	m := api.Node{Leaf: n.Leaf, Keys: keys[:len(n.Keys)], Vals: vals[:len(n.Vals)], Kids: kids[:len(n.Kids)]}
	was := []any{slices.Clone(keys), slices.Clone(vals), slices.Clone(kids)}
	return m, func() bool { return fmt.Sprint([]any{keys, vals, kids}) == fmt.Sprint(was) }
}

func spoilTexts(l []string) {
	l = l[:cap(l)]
	for i := range l {
		l[i] = "spoilt"
	}
}

// spoil turns all of a node's lists, and the room behind them.
func spoil(n api.Node) {
	spoilTexts(n.Keys)
	spoilTexts(n.Vals)
	kids := n.Kids[:cap(n.Kids)]
	for i := range kids {
		kids[i] = -99
	}
}

// calls are all that hand out nodes, by a name.
func calls() map[string]func(n api.Node) []api.Node {
	return map[string]func(n api.Node) []api.Node{
		"Set":        func(n api.Node) []api.Node { return []api.Node{Set(n, "bb", "new")} },
		"Set first":  func(n api.Node) []api.Node { return []api.Node{Set(n, "a", "new")} },
		"Set last":   func(n api.Node) []api.Node { return []api.Node{Set(n, "z", "new")} },
		"Set again":  func(n api.Node) []api.Node { return []api.Node{Set(n, "c", "new")} },
		"Unset":      func(n api.Node) []api.Node { m, _ := Unset(n, "c"); return []api.Node{m} },
		"Unset last": func(n api.Node) []api.Node { m, _ := Unset(n, "e"); return []api.Node{m} },
		"Unset none": func(n api.Node) []api.Node { m, _ := Unset(n, "x"); return []api.Node{m} },
		"Halve":      func(n api.Node) []api.Node { a, _, b := Halve(n); return []api.Node{a, b} },
		"Find":       func(n api.Node) []api.Node { Find(n, "c"); Find(n, "bb"); return nil },
		"Size":       func(n api.Node) []api.Node { Size(n); Check(n); return nil },
		"Encode":     func(n api.Node) []api.Node { Encode(n); return nil },
		"a block":    func(n api.Node) []api.Node { b, _ := Encode(n); m, _ := Decode(b); return []api.Node{m} },
	}
}

func TestP8_5NewMemory(t *testing.T) {
	for what, call := range calls() {
		for _, n := range []api.Node{leaf("b", "1", "c", "2", "d", "3", "e", "4"), branch("b", "c", "d", "e", "f"), branch("b", "c", "d")} {
			m, still := watched(n)
			first, second := call(m), call(m)
			was := fmt.Sprint(second)
			for i, a := range first {
				rest := fmt.Sprint(first[i+1:])
				spoil(a)
				if fmt.Sprint(first[i+1:]) != rest {
					t.Errorf("%s: two nodes of one answer share memory", what)
				}
			}
			if !still() {
				t.Errorf("%s: changes what is handed in, or shares memory with it", what)
			}
			if fmt.Sprint(second) != was {
				t.Errorf("%s: two answers share memory", what)
			}
			spoil(m)
			if fmt.Sprint(second) != was {
				t.Errorf("%s: an answer shares memory with what was handed in", what)
			}
		}
	}
}

func TestP8_5Blocks(t *testing.T) {
	for _, n := range []api.Node{leaf("b", "1", "c", "2"), branch("b", "c"), leaf()} {
		a, _ := Encode(n)
		b, _ := Encode(n)
		was := slices.Clone(b)
		for i := range a[:cap(a)] {
			a[:cap(a)][i] = 0x5a
		}
		if !bytes.Equal(b, was) {
			t.Error("two blocks share memory")
		}
		all := append(slices.Clone(b), 0xee, 0xee, 0xee)
		still := slices.Clone(all)
		x, e := Decode(all[:256])
		y, _ := Decode(all[:256])
		if e != api.OK || !bytes.Equal(all, still) {
			t.Errorf("Decode: %d, or the bytes have changed", e)
		}
		spoil(x)
		clear(all)
		if !same(y, n) {
			t.Errorf("Decode: an answer shares memory: %v, not %v", y, n)
		}
	}
}

// TestP8_1To4NonePanics hands in what nobody asks for: nodes not in form, and with too few keys.
func TestP8_1To4NonePanics(t *testing.T) {
	nodes := []api.Node{leaf(), leaf("a", "1"), branch("a"), branch("a", "b")}
	for _, c := range wrong() {
		nodes = append(nodes, c.n)
	}
	for _, n := range nodes {
		m, still := watched(n)
		for _, k := range []string{"", "a", "aa", "b", "\xff", long(21), long(300)} {
			Find(m, k)
			Set(m, k, long(101))
			Set(m, k, k)
			Unset(m, k)
		}
		Halve(m)
		Size(m)
		Check(m)
		Encode(m)
		if !still() {
			t.Errorf("%v has changed", n)
		}
	}
}

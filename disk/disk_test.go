package disk

import (
	"bytes"
	"errors"
	"fmt"
	"math"
	"math/rand"
	"runtime"
	"slices"
	"strings"
	"testing"

	"parley/api"
)

// full is a block of one byte.
func full(x byte) []byte {
	return bytes.Repeat([]byte{x}, 256)
}

// sectorsOf is a block whose sectors have these bytes.
func sectorsOf(x ...byte) []byte {
	b := make([]byte, 0, 256)
	for _, y := range x {
		b = append(b, bytes.Repeat([]byte{y}, 32)...)
	}
	return append(b, make([]byte, 256-len(b))...)
}

func numbered(t *testing.T, blocks int) *Disk {
	t.Helper()
	d, e := New(blocks)
	if e != api.OK || d == nil {
		t.Fatalf("New(%d): %d", blocks, e)
	}
	return d
}

// powerOut tells whether f panics with just PowerOut{}.
func powerOut(f func()) (out bool) {
	defer func() { out = recover() == any(PowerOut{}) }()
	f()
	return
}

func check(t *testing.T, what string, got, want any) {
	t.Helper()
	if g, w := fmt.Sprint(got), fmt.Sprint(want); g != w {
		t.Errorf("%s: %.300s, not %.300s", what, g, w)
	}
}

func TestKinds(t *testing.T) {
	check(t, "the kinds", []int{Write, Read, Flush, Crash}, []int{1, 2, 3, 4})
}

func TestP3_1PlayExamples(t *testing.T) {
	reads, errs, image := Play(2, -1, []api.DiskOp{{Kind: Write, Data: full(7)}, {Kind: Read}, {Kind: Crash, Sectors: 1}, {Kind: Read}})
	check(t, "errors", errs, []api.Errno{0, 0, 0, 0})
	check(t, "what the ops read", reads, [][]byte{nil, full(7), nil, sectorsOf(7)})
	check(t, "image", image, append(sectorsOf(7), full(0)...))

	reads, errs, image = Play(1, 1, []api.DiskOp{{Kind: Write, Data: full(7)}, {Kind: Flush}, {Kind: Flush}, {Kind: Crash}, {Kind: Flush}})
	check(t, "errors", errs, []api.Errno{api.OK, api.ErrPower, api.ErrPower, api.OK, api.OK})
	check(t, "what the ops read", reads, make([][]byte, 5))
	check(t, "image", image, full(0))
}

func TestP3_1PlayRefused(t *testing.T) {
	for _, blocks := range []int{math.MinInt, -1, 0, 2049, math.MaxInt} {
		if reads, errs, image := Play(blocks, -1, []api.DiskOp{{Kind: Flush}}); len(reads)+len(errs)+len(image) != 0 {
			t.Errorf("Play of %d blocks: %v, %v, %d bytes", blocks, reads, errs, len(image))
		}
	}
	reads, errs, image := Play(2048, 0, nil)
	if len(reads)+len(errs) != 0 || !bytes.Equal(image, make([]byte, 2048*256)) {
		t.Errorf("Play of no ops: %v, %v, %d bytes", reads, errs, len(image))
	}
}

func TestP3_1PlayWrongOps(t *testing.T) {
	for _, arm := range []int{-1, 0, 100} {
		for _, op := range []api.DiskOp{
			{Kind: Write, Block: -1, Data: full(1)}, {Kind: Write, Block: 2, Data: full(1)}, {Kind: Write, Block: math.MaxInt, Data: full(1)}, {Kind: Write, Block: math.MinInt, Data: full(1)},
			{Kind: Write}, {Kind: Write, Data: full(1)[1:]}, {Kind: Write, Data: append(full(1), 1)}, {Kind: Write, Data: make([]byte, 512)},
			{Kind: Read, Block: -1}, {Kind: Read, Block: 2}, {Kind: Read, Block: math.MaxInt}, {Kind: Read, Block: math.MinInt},
			{Kind: 0, Data: full(1)}, {Kind: 5, Data: full(1)}, {Kind: -1}, {Kind: math.MaxInt}, {Kind: math.MinInt},
		} {
			reads, errs, image := Play(2, arm, []api.DiskOp{op, {Kind: Read}, {Kind: Read, Block: 1}})
			check(t, "errors", errs, []api.Errno{api.ErrArg, 0, 0})
			check(t, "what the ops read", reads, [][]byte{nil, full(0), full(0)})
			check(t, "image", image, make([]byte, 512))
		}
	}
}

func TestP3_1Power(t *testing.T) {
	good := api.DiskOp{Kind: Write, Data: full(1)}
	short := api.DiskOp{Kind: Write, Data: full(1)[1:]}
	away := api.DiskOp{Kind: Write, Block: 1, Data: full(1)}
	for _, c := range []struct {
		arm  int
		ops  []api.DiskOp
		want []api.Errno
	}{
		{0, []api.DiskOp{good, {Kind: Flush}, {Kind: Read}}, []api.Errno{9, 9, 0}},
		{1, []api.DiskOp{{Kind: Flush}, good, good}, []api.Errno{0, 9, 9}},
		{2, []api.DiskOp{good, good, {Kind: Flush}}, []api.Errno{0, 0, 9}},
		{1, []api.DiskOp{short, away, {Kind: Read}, {Kind: 9}, good, good, short, away, {Kind: 9}}, []api.Errno{1, 1, 0, 1, 0, 9, 1, 1, 1}}, // only good writes and flushes count
		{0, []api.DiskOp{good, {Kind: Crash}, good, {Kind: Flush}, good}, []api.Errno{9, 0, 0, 0, 0}},                                       // a crash takes the arming away
		{5, []api.DiskOp{good, {Kind: Crash}, good, good, good, good, good, good}, []api.Errno{0, 0, 0, 0, 0, 0, 0, 0}},
		{-1, []api.DiskOp{good, {Kind: Flush}}, []api.Errno{0, 0}},
		{math.MinInt, []api.DiskOp{good, {Kind: Flush}}, []api.Errno{0, 0}},
		{math.MaxInt, []api.DiskOp{good, {Kind: Flush}}, []api.Errno{0, 0}},
	} {
		reads, errs, _ := Play(1, c.arm, c.ops)
		check(t, fmt.Sprint("errors of ", c.arm), errs, c.want)
		for i, r := range reads {
			if c.ops[i].Kind != Read && len(r) != 0 {
				t.Errorf("op %d reads %x", i, r)
			}
		}
	}
}

func TestP3_1TooManyWait(t *testing.T) {
	d := numbered(t, 2)
	for i := range 64 {
		check(t, "Write", d.Write(i%2, full(byte(i+1))), api.OK)
		check(t, "Pending", d.Pending(), i+1)
	}
	check(t, "the 65th", d.Write(0, full(99)), api.ErrBig)
	check(t, "the 65th of no block", d.Write(2, full(99)), api.ErrArg)
	check(t, "the 65th of 255 bytes", d.Write(0, full(99)[1:]), api.ErrArg)
	check(t, "Pending", d.Pending(), 64)
	b, _ := d.Read(0)
	check(t, "Read", b, full(63))
	d.Arm(1)
	check(t, "the 65th uses up a call", d.Write(0, full(99)), api.ErrBig)
	if !powerOut(func() { d.Write(0, full(99)) }) {
		t.Error("the power comes ahead of ErrBig")
	}
	d.Arm(-1)
	d.Flush()
	check(t, "Pending", d.Pending(), 0)
	check(t, "Image", d.Image(), append(full(63), full(64)...))
	check(t, "behind a flush", d.Write(0, full(99)), api.OK)
}

func TestP3_1Arm(t *testing.T) {
	d := numbered(t, 2)
	for n := range 5 {
		d.Arm(n)
		for i := range n {
			if i%2 == 0 && d.Write(1, full(byte(n))) != api.OK {
				t.Fatal("Write")
			} else if i%2 == 1 {
				d.Flush()
			}
		}
		wait, image := d.Pending(), d.Image()
		for range 3 { // this one, and each further one
			if !powerOut(func() { d.Write(0, full(200)) }) || !powerOut(d.Flush) {
				t.Fatalf("armed with %d: the power stays", n)
			}
			if d.Write(0, nil) != api.ErrArg || d.Write(2, full(200)) != api.ErrArg {
				t.Error("a wrong write, the power out")
			}
		}
		if d.Pending() != wait || !bytes.Equal(d.Image(), image) {
			t.Error("something has changed with the power out")
		}
		if b, e := d.Read(0); e != api.OK || !bytes.Equal(b, full(0)) {
			t.Error("Read with the power out")
		}
	}
	d.Arm(-1)
	for range 100 {
		d.Flush()
	}
	for _, before := range []int{1, 9} {
		d.Arm(before)
		d.Arm(3)
		for range 3 {
			d.Flush()
		}
		if !powerOut(d.Flush) {
			t.Errorf("armed with %d, then with 3: the last Arm doesn't hold", before)
		}
	}
	d.Crash(0, -1, 0)
	d.Flush()
	check(t, "Blocks", d.Blocks(), 2)
}

func TestP3_1CrashEdges(t *testing.T) {
	for _, c := range []struct {
		keep          uint64
		tear, sectors int
		want          []byte
	}{
		{0, -1, 8, full(0)},
		{1, -1, 0, full(1)},
		{2, -1, 0, full(2)},
		{3, -1, 0, full(2)},
		{4, 0, 0, full(0)}, // no write has that number
		{0, 0, 0, full(0)},
		{0, 0, math.MinInt, full(0)},
		{0, 0, -1, full(0)},
		{0, 0, 1, sectorsOf(1)},
		{0, 0, 3, sectorsOf(1, 1, 1)},
		{0, 0, 7, sectorsOf(1, 1, 1, 1, 1, 1, 1)},
		{0, 0, 8, full(1)},
		{0, 0, 9, full(1)},
		{0, 0, math.MaxInt, full(1)},
		{0, 1, 2, sectorsOf(2, 2)},
		{0, 2, 8, full(0)},
		{0, math.MaxInt, 8, full(0)},
		{0, math.MinInt, 8, full(0)},
		{0, 64, 8, full(0)},
		{1, 0, 3, full(1)}, // what is kept isn't torn
		{1, 1, 3, sectorsOf(2, 2, 2, 1, 1, 1, 1, 1)},
		{2, 0, 3, full(2)}, // the later one lands later
		{math.MaxUint64, 0, 1, full(2)},
		{math.MaxUint64 - 3, 1, 1, sectorsOf(2)},
	} {
		d := numbered(t, 1)
		d.Write(0, full(1))
		d.Write(0, full(2))
		d.Crash(c.keep, c.tear, c.sectors)
		what := fmt.Sprintf("Crash(%x, %d, %d)", c.keep, c.tear, c.sectors)
		check(t, what, d.Image(), c.want)
		b, e := d.Read(0)
		check(t, what+": error", e, api.OK)
		check(t, what+": Read", b, c.want)
		check(t, what+": Pending", d.Pending(), 0)
		d.Flush()
		check(t, what+", Flush", d.Image(), c.want)
	}
}

func TestP3_1CrashOf64(t *testing.T) {
	for i := range 64 {
		d := numbered(t, 64)
		for n := range 64 {
			d.Write(n, full(byte(n+1)))
		}
		tear := (i + 1) % 64
		d.Crash(1<<i, tear, 4)
		want := make([]byte, 64*256)
		copy(want[i*256:], full(byte(i+1)))
		copy(want[tear*256:], full(byte(tear + 1))[:128])
		if !bytes.Equal(d.Image(), want) {
			t.Errorf("bit %d", i)
		}
	}
}

// model is a disk told in the plainest way: a text for each sector, a list of what waits.
type model struct {
	on   map[[2]int]string
	wait []api.DiskOp
	n    int // of blocks
	left int // below 0: it isn't armed
	seen map[[2]int][]string
}

func newModel(n, arm int) *model {
	m := &model{on: map[[2]int]string{}, n: n, left: arm}
	for b := range n {
		for s := range 8 {
			m.on[[2]int{b, s}] = strings.Repeat("\x00", 32)
		}
	}
	m.settle()
	return m
}

// settle begins anew what may be seen behind a crash.
func (m *model) settle() {
	m.seen = map[[2]int][]string{}
	for k, v := range m.on {
		m.seen[k] = []string{v}
	}
}

func (m *model) put(op api.DiskOp, n int) {
	for s := range n {
		m.on[[2]int{op.Block, s}] = string(op.Data[32*s : 32*s+32])
	}
}

// spent tells whether the power is out for one more call.
func (m *model) spent() bool {
	if m.left > 0 {
		m.left--
		return false
	}
	return m.left == 0
}

func (m *model) do(op api.DiskOp) ([]byte, api.Errno) {
	none := op.Block < 0 || op.Block >= m.n
	switch {
	case op.Kind == 1 && (none || len(op.Data) != 256), op.Kind == 2 && none, op.Kind < 1, op.Kind > 4:
		return nil, api.ErrArg
	case (op.Kind == 1 || op.Kind == 3) && m.spent():
		return nil, api.ErrPower
	case op.Kind == 1 && len(m.wait) == 64:
		return nil, api.ErrBig
	case op.Kind == 1:
		m.wait = append(m.wait, op)
		for s := range 8 {
			k := [2]int{op.Block, s}
			m.seen[k] = append(m.seen[k], string(op.Data[32*s:32*s+32]))
		}
	case op.Kind == 2:
		return m.read(op.Block), api.OK
	case op.Kind == 3:
		for _, w := range m.wait {
			m.put(w, 8)
		}
		m.wait = nil
		m.settle()
	default:
		m.crash(op)
	}
	return nil, api.OK
}

func (m *model) read(block int) []byte {
	var b []byte
	for s := range 8 {
		b = append(b, m.on[[2]int{block, s}]...)
	}
	for _, w := range m.wait {
		if w.Block == block {
			b = bytes.Clone(w.Data)
		}
	}
	return b
}

func (m *model) crash(op api.DiskOp) {
	keep := fmt.Sprintf("%064b", op.Keep)
	for i, w := range m.wait {
		switch {
		case keep[63-i] == '1':
			m.put(w, 8)
		case i == op.Tear:
			m.put(w, max(0, min(8, op.Sectors)))
		}
	}
	m.wait, m.left = nil, -1
}

func (m *model) image() []byte {
	var b []byte
	for n := range m.n {
		for s := range 8 {
			b = append(b, m.on[[2]int{n, s}]...)
		}
	}
	return b
}

// randomOps are mostly writes, so that many wait; here and there one is wrong.
func randomOps(r *rand.Rand, blocks, n int) []api.DiskOp {
	var ops []api.DiskOp
	for range n {
		data := make([]byte, 256)
		r.Read(data)
		op := api.DiskOp{Kind: []int{1, 1, 1, 1, 1, 2, 2, 3, 4}[r.Intn(9)], Block: r.Intn(blocks), Data: data, Keep: r.Uint64(), Tear: r.Intn(5), Sectors: r.Intn(11) - 1}
		if r.Intn(4) > 0 && op.Kind > 2 {
			op.Kind = 1
		}
		switch r.Intn(24) {
		case 0:
			op.Block = r.Intn(3*blocks) - blocks
		case 1:
			op.Data = make([]byte, r.Intn(600))
		case 2:
			op.Kind = r.Intn(9) - 2
		case 3:
			op.Tear = r.Intn(70) - 3
		}
		ops = append(ops, op)
	}
	return ops
}

func TestP3_1PlayAsTheModel(t *testing.T) {
	r := rand.New(rand.NewSource(31))
	told := map[api.Errno]int{}
	for i := range 600 {
		blocks := 1 + r.Intn(4)
		ops := randomOps(r, blocks, r.Intn(120))
		if i%5 == 0 {
			for j := range ops { // so that MaxPending is come to
				ops[j].Kind = min(ops[j].Kind, 2)
			}
		}
		arm := r.Intn(80) - 20
		m := newModel(blocks, arm)
		reads, errs, image := Play(blocks, arm, ops)
		if len(reads) != len(ops) || len(errs) != len(ops) {
			t.Fatalf("run %d: %d and %d answers of %d", i, len(reads), len(errs), len(ops))
		}
		for j, op := range ops {
			b, e := m.do(op)
			told[e]++
			if errs[j] != e || !bytes.Equal(reads[j], b) {
				t.Fatalf("run %d, op %d, kind %d: %d, %x; not %d, %x", i, j, op.Kind, errs[j], reads[j], e, b)
			}
		}
		if !bytes.Equal(image, m.image()) {
			t.Fatalf("run %d: another image", i)
		}
	}
	if told[0] == 0 || told[api.ErrArg] == 0 || told[api.ErrBig] == 0 || told[api.ErrPower] == 0 {
		t.Errorf("some error was never come to: %v", told)
	}
}

func TestP3_2BehindACrash(t *testing.T) {
	r := rand.New(rand.NewSource(32))
	for range 300 {
		blocks := 1 + r.Intn(3)
		d, m := numbered(t, blocks), newModel(blocks, -1)
		for range 3 {
			for _, op := range randomOps(r, blocks, 30) {
				if op.Kind == Crash {
					continue
				}
				d.do(op)
				m.do(op)
			}
			d.Crash(r.Uint64(), r.Intn(30), r.Intn(9))
			for k, may := range m.seen {
				b, _ := d.Read(k[0])
				if got := string(b[32*k[1] : 32*k[1]+32]); !slices.Contains(may, got) {
					t.Fatalf("block %d, sector %d is none of what was put there: %x", k[0], k[1], got)
				}
			}
			m = newModel(blocks, -1)
			image := d.Image()
			for n := range blocks {
				m.put(api.DiskOp{Block: n, Data: image[n*256 : n*256+256]}, 8)
			}
			m.settle()
		}
	}
}

func TestP3_2AllLost(t *testing.T) {
	d, _ := Load(append(full(1), full(2)...))
	d.Write(0, full(3))
	d.Write(1, full(4))
	d.Crash(0, -1, 8)
	check(t, "all lost", d.Image(), append(full(1), full(2)...))
}

func TestP3_2KeptAndTorn(t *testing.T) {
	d, _ := Load(append(full(1), full(2)...))
	d.Write(0, full(3))
	d.Write(1, full(4))
	d.Flush()
	d.Write(1, full(5))
	d.Write(0, full(6))
	d.Crash(2, 0, 3)
	check(t, "one kept, one torn", d.Image(), append(full(6), sectorsOf(5, 5, 5, 4, 4, 4, 4, 4)...))
}

func TestP3_3New(t *testing.T) {
	for _, n := range []int{math.MinInt, -1, 0, 2049, math.MaxInt} {
		if d, e := New(n); d != nil || e != api.ErrArg {
			t.Errorf("New(%d): %v, %d", n, d, e)
		}
	}
	for _, n := range []int{1, 2, 64, 2047, 2048} {
		d := numbered(t, n)
		check(t, "Blocks", d.Blocks(), n)
		check(t, "Pending", d.Pending(), 0)
		if !bytes.Equal(d.Image(), make([]byte, n*256)) {
			t.Errorf("the image of New(%d)", n)
		}
		for range 3 { // it isn't armed
			check(t, "Write", d.Write(n-1, full(5)), api.OK)
			d.Flush()
		}
		if b, e := d.Read(n); len(b) != 0 || e != api.ErrArg {
			t.Errorf("Read(%d) of %d blocks: %x, %d", n, n, b, e)
		}
		if b, e := d.Read(-1); len(b) != 0 || e != api.ErrArg {
			t.Errorf("Read(-1): %x, %d", b, e)
		}
		if b, e := d.Read(n - 1); !bytes.Equal(b, full(5)) || e != api.OK {
			t.Errorf("Read of the last block: %x, %d", b, e)
		}
	}
}

func TestP3_3Load(t *testing.T) {
	for _, n := range []int{0, 1, 32, 255, 257, 511, 2048*256 - 1, 2048*256 + 1, 2049 * 256} {
		if d, e := Load(make([]byte, n)); d != nil || e != api.ErrArg {
			t.Errorf("Load of %d bytes: %v, %d", n, d, e)
		}
	}
	if d, e := Load(nil); d != nil || e != api.ErrArg {
		t.Errorf("Load of nothing: %v, %d", d, e)
	}
	r := rand.New(rand.NewSource(33))
	for _, n := range []int{1, 2, 3, 2047, 2048} {
		image := make([]byte, n*256)
		r.Read(image)
		d, e := Load(image)
		if e != api.OK || d.Blocks() != n || d.Pending() != 0 || !bytes.Equal(d.Image(), image) {
			t.Fatalf("Load of %d blocks: %d", n, e)
		}
		b, e := d.Read(n - 1)
		check(t, "Read's error", e, api.OK)
		check(t, "Read", b, image[(n-1)*256:])
		for range 3 {
			d.Flush() // it isn't armed
		}
	}
}

func TestP3_3ImageHasNoneThatWait(t *testing.T) {
	d := numbered(t, 2)
	d.Write(1, full(9))
	check(t, "ahead of the flush", d.Image(), make([]byte, 512))
	d.Flush()
	check(t, "behind it", d.Image(), append(full(0), full(9)...))
}

type likePowerOut struct{ PowerOut }

func TestP3_3Guard(t *testing.T) {
	did := 0
	if Guard(func() { did++ }) || did != 1 {
		t.Error("Guard of what ends")
	}
	if Guard(nil) {
		t.Error("Guard of nothing")
	}
	if !Guard(func() { did++; panic(PowerOut{}) }) || did != 2 {
		t.Error("Guard of PowerOut{}")
	}
	if Guard(func() { defer func() { recover() }(); panic(PowerOut{}) }) {
		t.Error("Guard of what catches it itself")
	}
	d := numbered(t, 1)
	d.Arm(1)
	last := 0
	if !Guard(func() {
		for last = range 5 {
			d.Flush()
		}
	}) || last != 1 {
		t.Error("Guard of a disk's power")
	}
	if !Guard(func() {
		if Guard(func() {}) || !Guard(d.Flush) {
			t.Error("Guard in Guard")
		}
		d.Flush()
	}) {
		t.Error("the outer Guard")
	}
}

func TestP3_3GuardLetsOthersGoOn(t *testing.T) {
	own := errors.New("own")
	for _, p := range []any{"other", 7, own, &PowerOut{}, likePowerOut{}, struct{}{}, []int(nil)} {
		out := true
		func() {
			defer func() {
				if got := recover(); fmt.Sprintf("%T %v", got, got) != fmt.Sprintf("%T %v", p, p) {
					t.Errorf("a panic with %v came out as %v", p, got)
				}
			}()
			out = Guard(func() { panic(p) })
			t.Errorf("a panic with %v was lost", p)
		}()
		if !out {
			t.Error("Guard answered behind a panic")
		}
	}
	func() {
		defer func() {
			if _, ok := recover().(runtime.Error); !ok {
				t.Error("a runtime error was lost")
			}
		}()
		var none []int
		Guard(func() { none[0]++ })
	}()
	func() {
		defer func() {
			if recover() == nil {
				t.Error("a panic with nil was lost")
			}
		}()
		Guard(func() { panic(nil) })
	}()
}

// spare answers b with room behind it that has marks, and a look whether they still stand.
func spare(b []byte) ([]byte, func() bool) {
	whole := append(bytes.Clone(b), bytes.Repeat([]byte{0xee}, 64)...)
	return whole[:len(b)], func() bool {
		return bytes.Equal(whole[:len(b)], b) && bytes.Equal(whole[len(b):], bytes.Repeat([]byte{0xee}, 64))
	}
}

func spoil(b []byte) {
	b = b[:cap(b)]
	for i := range b {
		b[i] ^= 0x5a
	}
}

func TestP3_4WriteKeepsNothing(t *testing.T) {
	d := numbered(t, 2)
	data, same := spare(full(1))
	d.Write(0, data)
	d.Write(1, data)
	if !same() {
		t.Error("Write changes what it is handed")
	}
	spoil(data)
	for n := range 2 {
		b, _ := d.Read(n)
		check(t, "Read", b, full(1))
	}
	d.Flush()
	check(t, "Image", d.Image(), append(full(1), full(1)...))
	spoil(data)
	check(t, "Image", d.Image(), append(full(1), full(1)...))
}

func TestP3_4AnswersAreNew(t *testing.T) {
	d := numbered(t, 2)
	d.Write(0, full(1))
	for range 2 {
		a, _ := d.Read(0)
		c, _ := d.Read(1)
		a2, _ := d.Read(0)
		image := d.Image()
		spoil(a)
		check(t, "another answer", a2, full(1))
		spoil(c)
		spoil(image)
		b, _ := d.Read(0)
		check(t, "Read of what waits", b, full(1))
		b, _ = d.Read(1)
		check(t, "Read of the image", b, full(0))
	}
	d.Flush()
	a, _ := d.Read(0)
	spoil(a)
	spoil(d.Image())
	check(t, "Image", d.Image(), append(full(1), full(0)...))
}

func TestP3_4LoadKeepsNothing(t *testing.T) {
	image, same := spare(append(full(1), full(2)...))
	d, _ := Load(image)
	d.Write(0, full(3))
	d.Flush()
	if !same() {
		t.Error("Load's image is changed")
	}
	spoil(image)
	check(t, "Image", d.Image(), append(full(3), full(2)...))
}

func TestP3_4Play(t *testing.T) {
	data, same := spare(full(1))
	ops := []api.DiskOp{{Kind: Write, Data: data}, {Kind: Read}, {Kind: Read}, {Kind: Flush}, {Kind: Read}, {Kind: Read, Block: 1}, {Kind: 7, Block: 3, Tear: 4}}
	was := fmt.Sprint(ops)
	reads, errs, image := Play(2, -1, ops)
	if !same() || fmt.Sprint(ops) != was {
		t.Error("Play changes what it is handed")
	}
	spoil(data)
	for i, r := range reads {
		want := map[int][]byte{1: full(1), 2: full(1), 4: full(1), 5: full(0)}[i]
		check(t, fmt.Sprint("read ", i), r, append([]byte{}, want...))
		spoil(r)
	}
	check(t, "image", image, append(full(1), full(0)...))
	check(t, "errors", errs, []api.Errno{0, 0, 0, 0, 0, 0, 1})
}

// TestP3_4TwoDisks: nothing is kept beside the disk itself.
func TestP3_4TwoDisks(t *testing.T) {
	a, b := numbered(t, 1), numbered(t, 1)
	a.Write(0, full(1))
	a.Arm(0)
	b.Flush()
	check(t, "Pending of the other", b.Pending(), 0)
	check(t, "Image of the other", b.Image(), full(0))
}

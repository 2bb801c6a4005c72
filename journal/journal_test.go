package journal

import (
	"bytes"
	"fmt"
	"math"
	"math/rand"
	"testing"

	"parley/api"
	"parley/disk"
)

// full is a block of one byte.
func full(x byte) []byte {
	return bytes.Repeat([]byte{x}, 256)
}

func random(r *rand.Rand) []byte {
	b := make([]byte, 256)
	r.Read(b)
	return b
}

// writes puts block after block a random one.
func writes(r *rand.Rand, blocks ...int) []api.BlockWrite {
	var l []api.BlockWrite
	for _, n := range blocks {
		l = append(l, api.BlockWrite{Block: n, Data: random(r)})
	}
	return l
}

func check(t *testing.T, what string, got, want any) {
	t.Helper()
	if g, w := fmt.Sprint(got), fmt.Sprint(want); g != w {
		t.Errorf("%s: %.300s, not %.300s", what, g, w)
	}
}

func load(t *testing.T, image []byte) *disk.Disk {
	t.Helper()
	d, e := disk.Load(image)
	if e != api.OK {
		t.Fatalf("a disk of %d bytes: %d", len(image), e)
	}
	return d
}

// randomDisk has something on each block, so that what is lost shows.
func randomDisk(t *testing.T, r *rand.Rand, blocks int) *disk.Disk {
	t.Helper()
	var image []byte
	for range blocks {
		image = append(image, random(r)...)
	}
	return load(t, image)
}

// opened is a journal just made.
func opened(t *testing.T, d *disk.Disk, base, slots int) *Journal {
	t.Helper()
	if e := Format(d, base, slots); e != api.OK {
		t.Fatalf("Format(%d, %d): %d", base, slots, e)
	}
	return reopened(t, d, base, slots, 0)
}

// reopened is the journal there, that is to write home so many blocks.
func reopened(t *testing.T, d *disk.Disk, base, slots, home int) *Journal {
	t.Helper()
	j, n, e := Open(d, base, slots)
	if e != api.OK || n != home || j == nil {
		t.Fatalf("Open(%d, %d): %d blocks, %d; not %d", base, slots, n, e, home)
	}
	return j
}

// outside is an image with noughts in the area.
func outside(image []byte, base, slots int) []byte {
	image = bytes.Clone(image)
	copy(image[base*256:], make([]byte, (slots+2)*256))
	return image
}

// written is the image with these blocks' new contents.
func written(image []byte, l []api.BlockWrite) []byte {
	image = bytes.Clone(image)
	for _, w := range l {
		copy(image[w.Block*256:], w.Data)
	}
	return image
}

// holds tells of a disk on which nothing waits and that has this image outside the area.
func holds(t *testing.T, what string, d *disk.Disk, base, slots int, want []byte) {
	t.Helper()
	if !bytes.Equal(outside(d.Image(), base, slots), outside(want, base, slots)) {
		t.Fatalf("%s: other contents", what)
	}
	check(t, what+": writes that wait", d.Pending(), 0)
}

// powerOut tells whether f panics with just PowerOut{}.
func powerOut(f func()) (out bool) {
	defer func() { out = recover() == any(disk.PowerOut{}) }()
	f()
	return
}

func TestP5_1Area(t *testing.T) {
	for slots, want := range map[int]int{1: 3, 2: 4, 10: 12, 60: 62} {
		check(t, fmt.Sprint("Area of ", slots), Area(slots), want)
	}
	check(t, "MaxSlots", MaxSlots, 60)
}

func TestP5_1Places(t *testing.T) {
	for _, c := range []struct {
		blocks, base, slots int
		want                api.Errno
	}{
		{20, 0, 10, api.OK}, {20, 8, 10, api.OK}, {12, 0, 10, api.OK}, {3, 0, 1, api.OK}, {62, 0, 60, api.OK}, {2048, 1986, 60, api.OK}, {2048, 2045, 1, api.OK}, {300, 255, 3, api.OK}, {300, 256, 3, api.OK},
		{11, 0, 10, api.ErrArg}, {20, 9, 10, api.ErrArg}, {2, 0, 1, api.ErrArg}, {1, 0, 1, api.ErrArg}, {61, 0, 60, api.ErrArg}, {2048, 1987, 60, api.ErrArg}, {20, 18, 1, api.ErrArg}, {20, 20, 1, api.ErrArg},
		{20, -1, 10, api.ErrArg}, {20, -3, 1, api.ErrArg}, {20, math.MinInt, 1, api.ErrArg}, {20, math.MaxInt, 1, api.ErrArg}, {20, math.MaxInt - 2, 1, api.ErrArg}, {20, math.MaxInt - 61, 60, api.ErrArg},
		{100, 0, 0, api.ErrArg}, {100, 0, 61, api.ErrArg}, {100, 0, -1, api.ErrArg}, {100, 0, -2, api.ErrArg}, {100, 0, math.MaxInt, api.ErrArg}, {100, 0, math.MinInt, api.ErrArg}, {100, 50, -20, api.ErrArg}, {100, 0, math.MaxInt - 1, api.ErrArg},
	} {
		d := randomDisk(t, rand.New(rand.NewSource(51)), c.blocks)
		was := d.Image()
		what := fmt.Sprintf("%d blocks, base %d, slots %d", c.blocks, c.base, c.slots)
		check(t, what+": Format", Format(d, c.base, c.slots), c.want)
		for _, open := range []func(*disk.Disk, int, int) (*Journal, int, api.Errno){Open, Recover} {
			j, n, e := open(d, c.base, c.slots)
			if n != 0 || e != c.want || (j == nil) != (e != api.OK) {
				t.Errorf("%s: opened: %v, %d, %d", what, j != nil, n, e)
			}
		}
		if c.want == api.OK {
			holds(t, what, d, c.base, c.slots, was)
		} else if !bytes.Equal(d.Image(), was) || d.Pending() != 0 {
			t.Errorf("%s: something has changed", what)
		}
	}
}

func TestP5_1NoJournal(t *testing.T) {
	r := rand.New(rand.NewSource(52))
	refused := func(what string, d *disk.Disk, base, slots int) {
		t.Helper()
		was := d.Image()
		for _, open := range []func(*disk.Disk, int, int) (*Journal, int, api.Errno){Open, Recover} {
			if j, n, e := open(d, base, slots); j != nil || n != 0 || e != api.ErrForm {
				t.Errorf("%s: %v, %d, %d", what, j != nil, n, e)
			}
		}
		if !bytes.Equal(d.Image(), was) || d.Pending() != 0 {
			t.Errorf("%s: something has changed", what)
		}
	}
	refused("noughts", load(t, make([]byte, 20*256)), 0, 10)
	refused("ones", load(t, bytes.Repeat([]byte{255}, 20*256)), 0, 10)
	d := randomDisk(t, r, 400)
	refused("anything", d, 0, 10)
	j := opened(t, d, 5, 10)
	check(t, "Commit", j.Commit(writes(r, 20, 21, 22)), api.OK)
	for _, slots := range []int{1, 9, 11, 60} {
		refused(fmt.Sprint("slots ", slots), d, 5, slots)
	}
	for _, base := range []int{0, 4, 6, 7, 20, 5 + 256} {
		refused(fmt.Sprint("base ", base), d, base, 10)
	}
	image := d.Image()
	copy(image[(5+256)*256:], image[5*256:17*256]) // the area's bytes, where no journal was made
	refused("a copy of an area", load(t, image), 5+256, 10)
	reopened(t, d, 5, 10, 0)
}

// TestP5_1SpoiltHead: a head with a wrong mark, or that tells of a commit that can't be, is no journal's, and nothing is written.
func TestP5_1SpoiltHead(t *testing.T) {
	r := rand.New(rand.NewSource(67))
	for what, spoil := range map[string]func(image []byte){
		"its first byte":      func(b []byte) { b[5*256] ^= 1 },
		"its mark's last":     func(b []byte) { b[5*256+markBytes-1] ^= 1 },
		"more than the slots": func(b []byte) { b[5*256+countByte] = 4 },
		"255 slots":           func(b []byte) { b[5*256+countByte] = 255 },
		"none of the disk":    func(b []byte) { b[5*256+countByte] = 1; b[6*256] = 20 },
		"far off the disk":    func(b []byte) { b[5*256+countByte] = 1; b[6*256] = 0; b[6*256+1] = 255 },
		"one of the area":     func(b []byte) { b[5*256+countByte] = 1; b[6*256] = 7 },
		"twice the same":      func(b []byte) { b[5*256+countByte] = 2; b[6*256] = 11; b[6*256+2] = 11 },
		"behind a good one":   func(b []byte) { b[5*256+countByte] = 3; b[6*256+4] = 20 },
		"behind the sector":   nil, // there the head says nothing
	} {
		d := randomDisk(t, r, 20)
		j := opened(t, d, 5, 3)
		check(t, "Commit", j.Commit(writes(r, 11, 12, 13)), api.OK)
		image := d.Image()
		want := api.ErrForm
		if spoil == nil {
			image[5*256+32] = 1
			want = api.OK
		} else {
			spoil(image)
		}
		d = load(t, image)
		if j, n, e := Open(d, 5, 3); (j == nil) != (e != api.OK) || n != 0 || e != want {
			t.Errorf("%s: %v, %d, %d", what, j != nil, n, e)
		}
		if !bytes.Equal(d.Image(), image) || d.Pending() != 0 {
			t.Errorf("%s: something has changed", what)
		}
	}
}

func TestP5_1FormatAnew(t *testing.T) {
	r := rand.New(rand.NewSource(53))
	d := randomDisk(t, r, 30)
	j := opened(t, d, 3, 8)
	check(t, "Commit", j.Commit(writes(r, 0, 20)), api.OK)
	was := d.Image()
	j = opened(t, d, 3, 8)
	check(t, "Seq", j.Seq(), 0)
	holds(t, "made anew", d, 3, 8, was)
	// what an old commit has left unfinished must not come up in a new journal
	for arm := range 20 {
		d := load(t, was)
		j := reopened(t, d, 3, 8, 0)
		d.Arm(arm)
		j.Try(writes(r, 1, 20))
		d.Crash(math.MaxUint64, -1, 0)
		before := d.Image()
		j = opened(t, d, 3, 8)
		check(t, "Seq", j.Seq(), 0)
		holds(t, "made anew over an unfinished commit", d, 3, 8, before)
	}
}

func TestP5_1CommitExample(t *testing.T) {
	d := load(t, make([]byte, 20*256))
	check(t, "Format", Format(d, 0, 10), api.OK)
	j, n, e := Open(d, 0, 10)
	check(t, "Open", []any{n, e}, []any{0, api.OK})
	l := []api.BlockWrite{{Block: 12, Data: full(1)}, {Block: 13, Data: full(2)}}
	check(t, "Commit", j.Commit(l), api.OK)
	check(t, "Seq", j.Seq(), 1)
	holds(t, "12 and 13", d, 0, 10, written(make([]byte, 20*256), l))
	d = load(t, make([]byte, 11*256))
	check(t, "Format of 11 blocks", Format(d, 0, 10), api.ErrArg)
	d = load(t, make([]byte, 20*256))
	j, n, e = Open(d, 0, 10)
	check(t, "Open of noughts", []any{j == nil, n, e}, []any{true, 0, api.ErrForm})
}

// wrongCommits are for a disk of 20 blocks with a journal of 3 slots at 5: its area is 5 to 9.
func wrongCommits() []struct {
	what string
	l    []api.BlockWrite
	want api.Errno
} {
	at := func(blocks ...int) []api.BlockWrite {
		return writes(rand.New(rand.NewSource(54)), blocks...)
	}
	short := api.BlockWrite{Block: 0, Data: full(1)[1:]}
	return []struct {
		what string
		l    []api.BlockWrite
		want api.Errno
	}{
		{"too many", at(0, 1, 2, 3), api.ErrBig},
		{"too many, twice the same", at(0, 0, 0, 0), api.ErrBig},
		{"too many, none on the disk", at(-1, 20, 21, 22), api.ErrBig},
		{"too many, without data", make([]api.BlockWrite, 11), api.ErrBig},
		{"no such block", at(20), api.ErrArg},
		{"no such block", at(-1), api.ErrArg},
		{"the greatest block", at(math.MaxInt), api.ErrArg},
		{"the least block", at(math.MinInt), api.ErrArg},
		{"no such block at last", at(0, 1, 20), api.ErrArg},
		{"no such block, twice", at(20, 20), api.ErrArg},
		{"no such block behind one of the area", at(7, 20), api.ErrArg},
		{"no such block behind two of the same", at(0, 0, 20), api.ErrArg},
		{"no data", []api.BlockWrite{{Block: 0}}, api.ErrArg},
		{"255 bytes", []api.BlockWrite{short}, api.ErrArg},
		{"257 bytes", []api.BlockWrite{{Block: 0, Data: append(full(1), 1)}}, api.ErrArg},
		{"512 bytes", []api.BlockWrite{{Block: 0, Data: make([]byte, 512)}}, api.ErrArg},
		{"255 bytes at last", append(at(1, 2), short), api.ErrArg},
		{"255 bytes behind one of the area", append(at(5), short), api.ErrArg},
		{"255 bytes for one of the area", []api.BlockWrite{{Block: 5, Data: full(1)[1:]}}, api.ErrArg},
		{"the area's first", at(5), api.ErrForm},
		{"the area's second", at(6), api.ErrForm},
		{"a slot", at(8), api.ErrForm},
		{"the area's last", at(9), api.ErrForm},
		{"the area's last at last", at(0, 1, 9), api.ErrForm},
		{"twice the same", at(12, 12), api.ErrForm},
		{"twice the same, one between", at(12, 13, 12), api.ErrForm},
		{"twice the same, one ahead", at(19, 0, 0), api.ErrForm},
	}
}

func TestP5_1CommitRefuses(t *testing.T) {
	r := rand.New(rand.NewSource(55))
	d := randomDisk(t, r, 20)
	j := opened(t, d, 5, 3)
	check(t, "Commit", j.Commit(writes(r, 0, 19)), api.OK)
	for _, c := range wrongCommits() {
		check(t, c.what+": Commit", j.Commit(c.l), c.want)
		check(t, c.what+": Try", j.Try(c.l), c.want)
	}
	var none Journal // it has no slots
	check(t, "one that isn't open: nothing", none.Commit(nil), api.OK)
	check(t, "one that isn't open: a block", none.Commit(writes(r, 0)), api.ErrBig)
	check(t, "one that isn't open: Try", none.Try(writes(r, 0)), api.ErrBig)
	check(t, "one that isn't open: Seq", none.Seq(), 0)
}

func TestP5_1CommitEdges(t *testing.T) {
	r := rand.New(rand.NewSource(56))
	d := randomDisk(t, r, 20)
	j := opened(t, d, 5, 3)
	want := d.Image()
	for i, blocks := range [][]int{{4}, {10}, {0, 19}, {4, 10, 0}, {19, 18, 17}, {4}, {4}} {
		l := writes(r, blocks...)
		check(t, "Commit", j.Commit(l), api.OK)
		want = written(want, l)
		holds(t, fmt.Sprint("commit of ", blocks), d, 5, 3, want)
		check(t, "Seq", j.Seq(), i+1)
	}
	for _, l := range [][]api.BlockWrite{nil, {}} { // of no blocks nothing happens, not even with the power out
		was := d.Image()
		d.Arm(0)
		check(t, "Commit of nothing", j.Commit(l), api.OK)
		check(t, "Try of nothing", j.Try(l), api.OK)
		d.Arm(-1)
		check(t, "Seq", j.Seq(), 7)
		if !bytes.Equal(d.Image(), was) {
			t.Error("a commit of nothing changes the disk")
		}
	}
}

func TestP5_1Greatest(t *testing.T) {
	r := rand.New(rand.NewSource(57))
	for _, c := range []struct{ blocks, base int }{{2048, 0}, {2048, 1986}, {2048, 1000}, {122, 60}} {
		d := randomDisk(t, r, c.blocks)
		j := opened(t, d, c.base, 60)
		want := d.Image()
		for n := 1; n <= 60; n += 1 + r.Intn(12) {
			var blocks []int
			for _, b := range r.Perm(c.blocks) {
				if len(blocks) < n && (b < c.base || b >= c.base+62) {
					blocks = append(blocks, b)
				}
			}
			l := writes(r, blocks...)
			check(t, "Commit", j.Commit(l), api.OK)
			want = written(want, l)
			holds(t, fmt.Sprint("commit of ", n), d, c.base, 60, want)
		}
		var blocks []int
		for b := range c.blocks {
			if len(blocks) < 60 && (b < c.base || b >= c.base+62) {
				blocks = append(blocks, b)
			}
		}
		seq := j.Seq()
		l := writes(r, blocks...)
		check(t, "Commit of 60", j.Commit(l), api.OK)
		holds(t, "commit of 60", d, c.base, 60, written(want, l))
		check(t, "Seq", j.Seq(), seq+1)
		check(t, "Commit of 61", j.Commit(append(l, l[0])), api.ErrBig)
		check(t, "Seq", reopened(t, d, c.base, 60, 0).Seq(), seq+1)
	}
}

// TestP5_1OnOneDisk: a journal opened twice counts the commits of both; two journals beside one another count their own.
func TestP5_1OnOneDisk(t *testing.T) {
	r := rand.New(rand.NewSource(58))
	d := randomDisk(t, r, 40)
	a := opened(t, d, 0, 4)
	b := opened(t, d, 6, 5)
	again := reopened(t, d, 0, 4, 0)
	want := d.Image()
	for i, j := range []*Journal{a, b, again, a, b, again, again} {
		l := writes(r, 20+i%3, 30)
		check(t, "Commit", j.Commit(l), api.OK)
		want = written(want, l)
		holds(t, "two journals", d, 0, 11, want)
	}
	check(t, "Seq of both", []uint64{a.Seq(), again.Seq(), b.Seq()}, []uint64{5, 5, 2})
	check(t, "Seq of both", []uint64{reopened(t, d, 0, 4, 0).Seq(), reopened(t, d, 6, 5, 0).Seq()}, []uint64{5, 2})
}

// TestP5_2OthersWait: what somebody has let wait on the disk since Open lands ahead of a commit, and takes no room away from it.
func TestP5_2OthersWait(t *testing.T) {
	r := rand.New(rand.NewSource(59))
	var far []int
	for i := range 60 {
		far = append(far, 100+i)
	}
	start := randomDisk(t, r, 200)
	opened(t, start, 0, 60)
	for _, n := range []int{1, 3, 4, 63, 64} {
		for e, arm := api.ErrPower, 0; e == api.ErrPower; arm++ {
			d := load(t, start.Image())
			j := reopened(t, d, 0, 60, 0)
			l := writes(r, far...)
			want := d.Image()
			for i := range n {
				w := writes(r, 62+i%30)
				check(t, "Write", d.Write(w[0].Block, w[0].Data), api.OK)
				want = written(want, w)
			}
			d.Arm(arm)
			e = j.Try(l)
			if e == api.ErrPower && arm == 0 { // none of it need have landed
				continue
			}
			d.Crash(0, -1, 0)
			_, _, again := Recover(d, 0, 60)
			check(t, "Recover", again, api.OK)
			if now := d.Image(); e == api.OK || bytes.Equal(now[100*256:101*256], l[0].Data) {
				want = written(want, l)
			}
			holds(t, fmt.Sprintf("%d others, arm %d", n, arm), d, 0, 60, want)
		}
	}
}

// TestP5_2Format: once Format has ended, no crash takes the journal away.
func TestP5_2Format(t *testing.T) {
	r := rand.New(rand.NewSource(60))
	for range 50 {
		d := randomDisk(t, r, 30)
		check(t, "Format", Format(d, 7, 9), api.OK)
		check(t, "writes that wait", d.Pending(), 0)
		d.Crash(r.Uint64(), r.Intn(4)-1, r.Intn(9))
		reopened(t, d, 7, 9, 0)
		d.Arm(r.Intn(3)) // nor does a second Format that doesn't end
		disk.Guard(func() { Format(d, 7, 9) })
		d.Crash(r.Uint64(), r.Intn(4)-1, r.Intn(9))
		reopened(t, d, 7, 9, 0)
	}
	d := randomDisk(t, r, 30)
	d.Arm(0)
	if !powerOut(func() { Format(d, 7, 9) }) {
		t.Error("Format with the power out: no PowerOut goes on")
	}
}

// TestP5_2PowerOutGoesOn: out of Commit and Open, whatever call of the disk it is in; Try and Recover answer it.
func TestP5_2PowerOutGoesOn(t *testing.T) {
	r := rand.New(rand.NewSource(61))
	l := writes(r, 12, 13)
	start := randomDisk(t, r, 20)
	opened(t, start, 0, 10)
	cut := 0 // commits in which the power goes out
	for arm := 0; ; arm++ {
		a, b := load(t, start.Image()), load(t, start.Image())
		j, k := reopened(t, a, 0, 10, 0), reopened(t, b, 0, 10, 0)
		a.Arm(arm)
		b.Arm(arm)
		out := powerOut(func() { j.Commit(l) })
		e := k.Try(l)
		if out != (e == api.ErrPower) || !out && e != api.OK {
			t.Fatalf("arm %d: PowerOut %v, Try %d", arm, out, e)
		}
		if !out {
			break
		}
		cut++
		a.Crash(math.MaxUint64, -1, 0)
		b.Crash(math.MaxUint64, -1, 0)
		a.Arm(0)
		b.Arm(0)
		out = powerOut(func() { Open(a, 0, 10) })
		x, n, e := Recover(b, 0, 10)
		if out != (e == api.ErrPower) || (e != api.OK) != (x == nil) || n != 0 {
			t.Errorf("arm %d: opened: PowerOut %v, Recover %v, %d, %d", arm, out, x != nil, n, e)
		}
	}
	if cut < 4 { // a commit of two blocks writes them, and flushes
		t.Errorf("the power went out in %d calls", cut)
	}
}

// crashes are all images that a crash can leave of a disk on which something waits.
func crashes(t *testing.T, image []byte, cut func(*disk.Disk)) map[string]bool {
	t.Helper()
	left := map[string]bool{}
	d := load(t, image)
	cut(d)
	waits := d.Pending()
	for keep := range uint64(1) << waits {
		for tear := -1; tear < waits; tear++ {
			for sectors := 1; sectors < 8; sectors++ {
				if tear < 0 && sectors > 1 || tear >= 0 && keep>>tear&1 == 1 {
					continue // the same as another one
				}
				d := load(t, image)
				cut(d)
				d.Crash(keep, tear, sectors)
				left[string(d.Image())] = true
			}
		}
	}
	return left
}

// whole recovers a disk, and answers whether it is the new image; it must be that or the old one.
func whole(t *testing.T, image string, was, new []byte, n int) bool {
	t.Helper()
	d := load(t, []byte(image))
	j, home, e := Recover(d, 0, 4)
	if e != api.OK || j == nil {
		t.Fatalf("Recover: %d", e)
	}
	now := outside(d.Image(), 0, 4)
	isNew := bytes.Equal(now, new)
	late := isNew && !bytes.Equal(outside([]byte(image), 0, 4), new) // it was Recover that wrote them home
	switch {
	case late && home != n:
		t.Fatalf("Recover of %d blocks says that it wrote home %d", n, home)
	case !isNew && !bytes.Equal(now, was):
		t.Fatal("neither the old blocks nor the new ones")
	case d.Pending() != 0:
		t.Fatal("something waits behind Recover")
	case home != 0 && (home != n || !isNew):
		t.Fatalf("Recover of %d blocks wrote home %d", n, home)
	case isNew && j.Seq() != 3, !isNew && j.Seq() != 2:
		t.Fatalf("Seq %d; the commit counts: %v", j.Seq(), isNew)
	}
	reopened(t, d, 0, 4, 0) // nothing is left to be finished
	return isNew
}

// TestP5_2EachCrash: the third of three commits is cut at each call, then crashes in each way; so does Recover of what is left.
func TestP5_2EachCrash(t *testing.T) {
	r := rand.New(rand.NewSource(62))
	for _, blocks := range [][]int{{8}, {11, 6}} {
		d := randomDisk(t, r, 12)
		j := opened(t, d, 0, 4)
		j.Commit(writes(r, 7, 8, 9, 10)) // what it leaves in the slots must not come up again
		j.Commit(writes(r, 10, 9, 8))
		start, l := d.Image(), writes(r, blocks...)
		was := outside(start, 0, 4)
		new := written(was, l)
		ended, done := false, map[string]bool{}
		for arm := 0; !ended; arm++ {
			cut := func(d *disk.Disk) {
				j, _, _ := Open(d, 0, 4)
				d.Arm(arm)
				ended = j.Try(l) == api.OK
			}
			for image := range crashes(t, start, cut) {
				isNew := whole(t, image, was, new, len(l))
				if ended && !isNew {
					t.Fatal("an answered commit is lost")
				}
				if !done[image] {
					done[image] = true
					eachRecovery(t, image, was, new, len(l), isNew)
				}
			}
		}
	}
}

// eachRecovery cuts Recover at each call, and crashes in each way: what was decided stays.
func eachRecovery(t *testing.T, image string, was, new []byte, n int, isNew bool) {
	t.Helper()
	ended := false
	for arm := 0; !ended; arm++ {
		cut := func(d *disk.Disk) {
			d.Arm(arm)
			_, _, e := Recover(d, 0, 4)
			ended = e == api.OK
		}
		for left := range crashes(t, []byte(image), cut) {
			if whole(t, left, was, new, n) != isNew {
				t.Fatal("a second recovery decides otherwise")
			}
		}
	}
}

// TestP5_2Far: blocks whose numbers need more than a byte come home too, and so do as many as there may be.
func TestP5_2Far(t *testing.T) {
	r := rand.New(rand.NewSource(66))
	for _, base := range []int{0, 400, 1900} {
		blocks := []int{2047, 256, 300, 1023, 1024}
		for len(blocks) < 60 {
			blocks = append(blocks, 1000-len(blocks))
		}
		d := randomDisk(t, r, 2048)
		j := opened(t, d, base, 60)
		want, finished := d.Image(), 0
		for e, arm := api.ErrPower, 0; e == api.ErrPower; arm++ {
			l := writes(r, blocks...)
			d.Arm(arm)
			e = j.Try(l)
			d.Crash(r.Uint64()&0xffff, 17, 3)
			j = nil
			var n int
			if j, n, _ = Open(d, base, 60); n > 0 {
				check(t, "written home", n, 60)
				finished++
			}
			if now, _ := d.Read(2047); bytes.Equal(now, l[0].Data) {
				want = written(want, l)
			}
			holds(t, fmt.Sprint("arm ", arm), d, base, 60, want)
		}
		if finished == 0 {
			t.Error("no commit had to be finished")
		}
	}
}

// rows is a disk with a journal, and what must be on it.
type rows struct {
	d                   *disk.Disk
	j                   *Journal
	blocks, base, slots int
	want                []byte
	seq                 uint64
}

// commit is of up to as many blocks as there are slots.
func (x *rows) commit(r *rand.Rand) []api.BlockWrite {
	var l []api.BlockWrite
	most := r.Intn(x.slots + 1)
	for _, b := range r.Perm(x.blocks) {
		if len(l) < most && (b < x.base || b >= x.base+x.slots+2) {
			l = append(l, api.BlockWrite{Block: b, Data: random(r)})
		}
	}
	return l
}

// recover crashes till a recovery ends: how many blocks the last one wrote home.
func (x *rows) recover(t *testing.T, r *rand.Rand) int {
	t.Helper()
	for {
		x.d.Crash(r.Uint64()&r.Uint64(), r.Intn(70)-3, r.Intn(11)-1)
		if r.Intn(2) == 0 {
			x.d.Arm(r.Intn(2*x.slots + 6))
		}
		j, n, e := Recover(x.d, x.base, x.slots)
		if e == api.ErrPower && j == nil && n == 0 {
			continue
		}
		if e != api.OK || j == nil {
			t.Fatalf("Recover: %v, %d, %d", j != nil, n, e)
		}
		x.d.Arm(-1)
		x.j = j
		return n
	}
}

// step is a commit, in which the power may go out.
func (x *rows) step(t *testing.T, r *rand.Rand) {
	t.Helper()
	l := x.commit(r)
	if r.Intn(3) > 0 {
		x.d.Arm(r.Intn(2*len(l) + 9))
	}
	e := x.j.Try(l)
	home := 0
	if e == api.ErrPower || r.Intn(4) == 0 {
		home = x.recover(t, r)
	}
	x.d.Arm(-1)
	isNew := bytes.Equal(outside(x.d.Image(), x.base, x.slots), written(x.want, l))
	switch {
	case e == api.ErrPower && len(l) == 0:
		t.Fatal("the power went out in a commit of nothing")
	case e != api.OK && e != api.ErrPower:
		t.Fatalf("Try: %d", e)
	case e == api.OK && (!isNew || home != 0):
		t.Fatalf("an answered commit: its blocks are there: %v; written home: %d", isNew, home)
	case home != 0 && (home != len(l) || !isNew):
		t.Fatalf("of %d blocks %d were written home; they are there: %v", len(l), home, isNew)
	}
	if isNew {
		x.want = written(x.want, l)
	}
	if isNew && len(l) > 0 {
		x.seq++
	}
	holds(t, "a row of commits", x.d, x.base, x.slots, x.want)
	check(t, "Seq", x.j.Seq(), x.seq)
}

func TestP5_2Rows(t *testing.T) {
	r := rand.New(rand.NewSource(63))
	for i := range 60 {
		x := &rows{slots: 1 + r.Intn(6)}
		if i%6 == 0 {
			x.slots = 60
		}
		x.blocks = x.slots + 2 + r.Intn(2*x.slots+4)
		x.base = r.Intn(x.blocks - x.slots - 1)
		x.d = randomDisk(t, r, x.blocks)
		x.j = opened(t, x.d, x.base, x.slots)
		x.want = outside(x.d.Image(), x.base, x.slots)
		for range 60 {
			x.step(t, r)
		}
	}
}

func TestP5_3ErrorsChangeNothing(t *testing.T) {
	r := rand.New(rand.NewSource(64))
	d := randomDisk(t, r, 20)
	j := opened(t, d, 5, 3)
	check(t, "Commit", j.Commit(writes(r, 0, 19)), api.OK)
	was := d.Image()
	for _, arm := range []int{-1, 0} { // with the power out as well: nothing is written
		for _, c := range wrongCommits() {
			d.Arm(arm)
			check(t, c.what+": Commit", j.Commit(c.l), c.want)
			check(t, c.what+": Try", j.Try(c.l), c.want)
			if !bytes.Equal(d.Image(), was) || d.Pending() != 0 || j.Seq() != 1 {
				t.Fatalf("%s: something has changed", c.what)
			}
		}
		check(t, "Format", Format(d, 5, 61), api.ErrArg)
		for _, open := range []func(*disk.Disk, int, int) (*Journal, int, api.Errno){Open, Recover} {
			for slots, want := range map[int]api.Errno{0: api.ErrArg, 4: api.ErrForm} {
				if j, n, e := open(d, 5, slots); j != nil || n != 0 || e != want {
					t.Errorf("%d slots: %v, %d, %d", slots, j != nil, n, e)
				}
			}
		}
		if !bytes.Equal(d.Image(), was) || d.Pending() != 0 {
			t.Fatal("something has changed")
		}
	}
	d.Arm(-1)
	check(t, "the journal goes on", j.Commit(writes(r, 1, 18)), api.OK)
}

func TestP5_3HandedIn(t *testing.T) {
	r := rand.New(rand.NewSource(65))
	d := randomDisk(t, r, 20)
	j := opened(t, d, 5, 4)
	for _, arm := range []int{-1, 0, 2, 5, 7} {
		wide := append(random(r), bytes.Repeat([]byte{0xee}, 64)...)
		was := bytes.Clone(wide)
		l := []api.BlockWrite{{Block: 0, Data: wide[:256]}, {Block: 19, Data: wide[1:257]}, {Block: 77, Data: wide}}
		d.Arm(arm)
		for n := range 4 { // the third of them is wrong
			if j.Try(l[:n]) == api.ErrPower {
				d.Crash(0, -1, 0)
				j, _, _ = Open(d, 5, 4)
			}
		}
		d.Arm(-1)
		if !bytes.Equal(wide, was) || l[0].Block != 0 || l[1].Block != 19 || l[2].Block != 77 || &l[0].Data[0] != &wide[0] || len(l[1].Data) != 256 {
			t.Fatal("what is handed in is changed")
		}
		check(t, "Commit", j.Commit(l[:2]), api.OK)
		image := d.Image()
		for i := range wide {
			wide[i] ^= 0x5a
		}
		if !bytes.Equal(d.Image(), image) || !bytes.Equal(image[:256], was[:256]) || !bytes.Equal(image[19*256:], was[1:257]) {
			t.Fatal("what is handed in is kept")
		}
	}
}

package region_test

import (
	"bytes"
	"math"
	"slices"
	"sync"
	"testing"

	"gangway/api"
	"gangway/disk"
	"gangway/power"
	"gangway/region"
)

var (
	keep = api.Fate{Kind: api.FateKeep}
	x    = bytes.Repeat([]byte{'x'}, 64)
	y    = bytes.Repeat([]byte{'y'}, 64)
	o    = make([]byte, 64)
)

// made answers a device of 4 sectors of 64 bytes, and the region of its sectors 1 and 2.
func made(t *testing.T) (*power.Device, *region.Region) {
	t.Helper()
	u, err := disk.New(4, 64)
	if err != api.OK {
		t.Fatal("no disk:", err)
	}
	d, err := power.New(u)
	if err != api.OK {
		t.Fatal("no device:", err)
	}
	return d, of(t, d, 1, 2)
}

func of(t *testing.T, d *power.Device, from, count int) *region.Region {
	t.Helper()
	r, err := region.New(d, api.Span{From: from, Count: count})
	if err != api.OK || r == nil {
		t.Fatalf("no region from %d, count %d: %d", from, count, err)
	}
	return r
}

// span is a span's first sector and how many there are.
func span(c [2]int) api.Span {
	return api.Span{From: c[0], Count: c[1]}
}

func wantErr(t *testing.T, what string, err, want api.Errno) {
	t.Helper()
	if err != want {
		t.Errorf("%s: %d, want %d", what, err, want)
	}
}

func wantRead(t *testing.T, r *region.Region, at int, want []byte) {
	t.Helper()
	if b, err := r.Read(at, len(want)); err != api.OK || !bytes.Equal(b, want) {
		t.Errorf("Read(%d, %d): %v, %d, want %v", at, len(want), b, err, want)
	}
}

func wantRefused(t *testing.T, what string, r *region.Region, at, n int, want api.Errno) {
	t.Helper()
	if b, err := r.Read(at, n); err != want || len(b) != 0 {
		t.Errorf("%s: Read(%d, %d): %v, %d, want %d", what, at, n, b, err, want)
	}
}

func wantCount(t *testing.T, what string, r *region.Region, want int) {
	t.Helper()
	if r.Count() != want {
		t.Errorf("%s: %d operations, want %d", what, r.Count(), want)
	}
}

func wantImage(t *testing.T, what string, d *power.Device, want ...[]byte) {
	t.Helper()
	if image := d.Image(); !slices.EqualFunc(image, want, bytes.Equal) {
		t.Errorf("%s: the image is %q, want %q", what, image, want)
	}
}

// P7.2, P7.3: the chapter's first example.
func TestExampleRead(t *testing.T) {
	d, r := made(t)
	if r.Bytes() != 128 || r.Size() != 64 || r.Count() != 0 || r.Down() {
		t.Error("a new one:", r.Bytes(), r.Size(), r.Count(), r.Down())
	}
	wantRead(t, r, 60, make([]byte, 8))
	wantCount(t, "Read(60, 8)", r, 2)
	for _, at := range []int{0, 5, 64, 128} {
		wantRead(t, r, at, nil)
	}
	wantCount(t, "reads of no bytes", r, 2)
	for _, c := range [][2]int{
		{128, 1}, {-1, 0}, {0, 129}, {0, -1}, {129, 0}, {127, 2}, {-1, 1}, {64, 65}, {5, -5}, {128, -1},
		{math.MaxInt, 0}, {math.MaxInt, 1}, {math.MaxInt, math.MaxInt}, {1, math.MaxInt}, {0, math.MaxInt},
		{math.MinInt, 0}, {math.MinInt, math.MaxInt}, {math.MinInt, math.MinInt}, {0, math.MinInt}, {128, math.MinInt},
	} {
		wantRefused(t, "not the region's", r, c[0], c[1], api.ErrArg)
	}
	wantCount(t, "reads that are refused", r, 2)
	if d.Waiting() != 0 {
		t.Error("a read lets something wait:", d.Waiting())
	}
}

// P7.4: the chapter's second example, and how many operations are made wherever the borders lie.
func TestExampleWrite(t *testing.T) {
	for _, c := range []struct{ at, n, operations, writes int }{
		{60, 8, 4, 2}, {0, 64, 1, 1}, {0, 65, 3, 2}, {5, 0, 0, 0},
		{0, 0, 0, 0}, {64, 0, 0, 0}, {128, 0, 0, 0},
		{0, 128, 2, 2}, {1, 127, 3, 2}, {0, 127, 3, 2}, {1, 126, 4, 2}, {64, 64, 1, 1},
		{63, 65, 3, 2}, {0, 1, 2, 1}, {127, 1, 2, 1}, {0, 63, 2, 1}, {1, 63, 2, 1}, {64, 63, 2, 1}, {63, 2, 4, 2},
	} {
		d, r := made(t)
		wantErr(t, "Write", r.Write(c.at, bytes.Repeat([]byte{1}, c.n)), api.OK)
		if d.Count() != c.operations || d.Waiting() != c.writes {
			t.Errorf("Write(%d, %d bytes): %d operations, %d wait, want %d, %d",
				c.at, c.n, d.Count(), d.Waiting(), c.operations, c.writes)
		}
	}
}

// P7.4: in which order sectors are read and written: what is armed with n stands behind n of them.
func TestWriteCutOff(t *testing.T) {
	for _, c := range []struct {
		at, n  int
		writes []int // how many wait, armed with 0, 1, ..
	}{
		{60, 8, []int{0, 0, 1, 1, 2}}, // read, write, read, write
		{0, 65, []int{0, 1, 1, 2}},    // write, read, write
		{1, 127, []int{0, 0, 1, 2}},   // read, write, write
		{0, 128, []int{0, 1, 2}},      // write, write
		{100, 1, []int{0, 0, 1}},      // read, write
		{64, 64, []int{0, 1}},         // write
	} {
		b := bytes.Repeat([]byte{7}, c.n)
		for n, waits := range c.writes {
			d, r := made(t)
			d.Arm(n)
			want := api.ErrDown
			if n == len(c.writes)-1 {
				want = api.OK
			}
			wantErr(t, "Write, armed", r.Write(c.at, b), want)
			if d.Waiting() != waits || d.Count() != n || r.Down() != (want == api.ErrDown) {
				t.Errorf("Write(%d, %d bytes), armed with %d: %d wait, %d operations, down %v",
					c.at, c.n, n, d.Waiting(), d.Count(), r.Down())
			}
		}
	}
}

// P7.4: the chapter's third example: what was written ahead of the error waits.
func TestExampleCutOff(t *testing.T) {
	d, r := made(t)
	d.Arm(2)
	wantErr(t, "Write, armed with 2", r.Write(60, []byte{1, 2, 3, 4, 5, 6, 7, 8}), api.ErrDown)
	if d.Waiting() != 1 || !r.Down() || r.Count() != 2 {
		t.Error("cut off:", d.Waiting(), r.Down(), r.Count())
	}
	d.Restart([]api.Fate{keep})
	wantImage(t, "kept", d, o, slices.Concat(o[:60], []byte{1, 2, 3, 4}), o, o)
	if r.Down() || r.Count() != 0 {
		t.Error("up again:", r.Down(), r.Count())
	}
	wantRead(t, r, 58, []byte{0, 0, 1, 2, 3, 4, 0, 0, 0, 0})
}

// P7.3: a read is cut off at any of its operations; no bytes are told then.
func TestReadCutOff(t *testing.T) {
	for n := range 4 {
		d, r := made(t)
		r.Write(0, x)
		r.Write(64, y)
		d.Sync()
		was := d.Count()
		d.Arm(n)
		if n < 2 {
			wantRefused(t, "armed", r, 0, 128, api.ErrDown)
		} else {
			wantRead(t, r, 0, slices.Concat(x, y))
		}
		if r.Count()-was != min(n, 2) || r.Down() != (n < 2) {
			t.Errorf("armed with %d: %d operations, down %v", n, r.Count()-was, r.Down())
		}
	}
}

// P7.3, P7.4, P7.5: down, ErrArg stands ahead of ErrDown, and what makes no operation is not refused.
func TestDown(t *testing.T) {
	d, r := made(t)
	r.Write(0, x)
	d.Arm(0)
	wantErr(t, "the power goes", r.Sync(), api.ErrDown)
	wantErr(t, "Sync, down", r.Sync(), api.ErrDown)
	wantRefused(t, "down", r, 0, 1, api.ErrDown)
	wantErr(t, "a whole sector, down", r.Write(0, y), api.ErrDown)
	wantErr(t, "some bytes, down", r.Write(0, y[:1]), api.ErrDown)
	wantRefused(t, "down", r, 0, 129, api.ErrArg)
	wantRefused(t, "down", r, -1, 1, api.ErrArg)
	wantErr(t, "Write(-1), down", r.Write(-1, y), api.ErrArg)
	wantErr(t, "Write(65), down", r.Write(65, y), api.ErrArg)
	wantRead(t, r, 128, nil)
	wantErr(t, "no bytes, down", r.Write(128, nil), api.OK)
	if !r.Down() || r.Count() != 1 || r.Bytes() != 128 || r.Size() != 64 || d.Waiting() != 1 {
		t.Error("down:", r.Down(), r.Count(), r.Bytes(), r.Size(), d.Waiting())
	}
	d.Restart(nil)
	wantImage(t, "up again", d, o, o, o, o)
	wantRead(t, r, 0, o)
}

// P7.4: places and lengths that are not the region's: nothing is done, though the device has sectors there.
func TestWriteRefused(t *testing.T) {
	d, r := made(t)
	for _, c := range [][2]int{
		{-1, 0}, {-1, 1}, {-1, 64}, {128, 1}, {129, 0}, {65, 64}, {127, 2}, {0, 129}, {1, 128}, {-64, 64}, {128, 64}, {0, 192},
		{math.MaxInt, 0}, {math.MaxInt, 64}, {math.MaxInt - 63, 64}, {math.MinInt, 0}, {math.MinInt, 64},
	} {
		wantErr(t, "Write, not the region's", r.Write(c[0], bytes.Repeat([]byte{1}, c[1])), api.ErrArg)
	}
	if d.Count() != 0 || d.Waiting() != 0 {
		t.Error("what is refused does something:", d.Count(), d.Waiting())
	}
}

// P7.1: which spans are a device's.
func TestNew(t *testing.T) {
	d, _ := made(t)
	for _, c := range [][2]int{{0, 1}, {0, 4}, {3, 1}, {1, 3}, {2, 1}, {2, 2}} {
		if r, err := region.New(d, span(c)); err != api.OK || r.Bytes() != 64*c[1] || r.Size() != 64 {
			t.Errorf("%v: %d, %d bytes", c, err, r.Bytes())
		}
	}
	for _, c := range [][2]int{
		{3, 2}, {0, 0}, {-1, 2}, {-1, 0}, {0, 5}, {4, 1}, {4, 0}, {5, -1}, {1, -1}, {2, 3}, {0, -1},
		{math.MaxInt, 1}, {1, math.MaxInt}, {math.MaxInt, math.MaxInt}, {0, math.MaxInt},
		{math.MinInt, 1}, {math.MinInt, math.MinInt}, {0, math.MinInt}, {math.MinInt, math.MaxInt}, {math.MaxInt, math.MinInt},
	} {
		if r, err := region.New(d, span(c)); r != nil || err != api.ErrArg {
			t.Errorf("%v: %v, %d", c, r != nil, err)
		}
	}
	if d.Count() != 0 {
		t.Error("New makes operations:", d.Count())
	}
	for what, d := range map[string]*power.Device{"nil": nil, "zero": {}} {
		for _, c := range [][2]int{{0, 0}, {0, 1}, {-1, 1}} {
			if r, err := region.New(d, span(c)); r != nil || err != api.ErrNil {
				t.Errorf("%s, %v: %v, %d", what, c, r != nil, err)
			}
		}
	}
}

// P7.1, P7.2: a device that is down, or armed, has regions as well; New is no operation.
func TestNewWhenDown(t *testing.T) {
	d, _ := made(t)
	d.Arm(1)
	r := of(t, d, 0, 4)
	wantErr(t, "Sync, armed with 1", r.Sync(), api.OK)
	wantErr(t, "Sync, the power goes", r.Sync(), api.ErrDown)
	r = of(t, d, 2, 2)
	if !r.Down() || r.Count() != 1 || r.Bytes() != 128 {
		t.Error("down:", r.Down(), r.Count(), r.Bytes())
	}
	if r, err := region.New(d, api.Span{From: 3, Count: 2}); r != nil || err != api.ErrArg {
		t.Error("down, a span past the end:", err)
	}
	d.Restart(nil)
	wantRead(t, r, 0, make([]byte, 128))
}

// P7.2 to P7.4: disks of the greatest and the least sizes, to their last byte.
func TestLimits(t *testing.T) {
	for _, c := range [][2]int{{1, 64}, {1, 4096}, {65536, 64}, {16384, 4096}, {65536, 1024}} {
		u, _ := disk.New(c[0], c[1])
		d, _ := power.New(u)
		r := of(t, d, 0, c[0])
		if r.Bytes() != c[0]*c[1] || r.Size() != c[1] {
			t.Errorf("%v: %d bytes, size %d", c, r.Bytes(), r.Size())
		}
		wantErr(t, "Write to the end", r.Write(r.Bytes()-3, []byte{1, 2, 3}), api.OK)
		wantErr(t, "Write past the end", r.Write(r.Bytes()-2, []byte{1, 2, 3}), api.ErrArg)
		wantCount(t, "Write", r, 2)
		b, err := r.Read(0, r.Bytes())
		if err != api.OK || len(b) != r.Bytes() || !bytes.Equal(b[len(b)-4:], []byte{0, 1, 2, 3}) {
			t.Errorf("%v: all is read: %d, %d bytes", c, err, len(b))
		}
		wantCount(t, "all is read", r, 2+c[0])
		wantErr(t, "all is written", r.Write(0, b), api.OK)
		wantCount(t, "all is written", r, 2+2*c[0])
		wantRefused(t, "one past the end", r, 0, r.Bytes()+1, api.ErrArg)
	}
}

// P7.5, R5: Sync is the device's: all that waits is durable, of other regions too; one operation.
func TestSync(t *testing.T) {
	d, r := made(t)
	other := of(t, d, 3, 1)
	other.Write(0, y)
	r.Write(64, x)
	wantErr(t, "Sync", r.Sync(), api.OK)
	wantCount(t, "two writes and a sync", r, 3)
	if d.Waiting() != 0 {
		t.Error("something waits:", d.Waiting())
	}
	wantImage(t, "synced", d, o, o, x, y)
}

// P7.6, R5: what is done by the device, its disk or another region shows where the sectors are the same.
func TestShared(t *testing.T) {
	u, _ := disk.New(4, 64)
	d, _ := power.New(u)
	left, right := of(t, d, 0, 3), of(t, d, 1, 3)
	left.Write(126, []byte{1, 2, 3, 4})
	wantRead(t, right, 60, []byte{0, 0, 1, 2, 3, 4, 0})
	right.Write(127, []byte{8, 9}) // 8 lies in both, 9 in right alone
	wantRead(t, left, 190, []byte{0, 8})
	wantRead(t, right, 127, []byte{8, 9})
	if left.Count() != right.Count() || left.Count() != d.Count() {
		t.Error("counts:", left.Count(), right.Count(), d.Count())
	}
	d.Write(1, x)
	wantRead(t, left, 64, x)
	wantRead(t, right, 0, x)
	u.Write(2, y)
	wantRead(t, left, 128, y)
	u.Crash(nil)
	wantRead(t, right, 0, make([]byte, 192))
	d.Arm(0)
	wantRefused(t, "armed", left, 0, 1, api.ErrDown)
	if !left.Down() || !right.Down() {
		t.Error("down:", left.Down(), right.Down())
	}
	copied, _ := power.New(u.Copy())
	of(t, copied, 0, 4).Write(0, slices.Repeat(x, 4))
	d.Restart([]api.Fate{keep, keep, keep, keep})
	wantImage(t, "a region of another device is written", d, o, o, o, o)
}

// P7.2 to P7.5, R4: what is no region.
func TestNone(t *testing.T) {
	for what, r := range map[string]*region.Region{"nil": nil, "zero": {}} {
		for _, c := range [][2]int{{0, 0}, {-1, 0}, {0, -1}, {0, 1}, {math.MaxInt, math.MaxInt}} {
			wantRefused(t, what, r, c[0], c[1], api.ErrNil)
			wantErr(t, what, r.Write(c[0], nil), api.ErrNil)
			wantErr(t, what, r.Write(c[0], x), api.ErrNil)
		}
		wantErr(t, what, r.Sync(), api.ErrNil)
		if r.Bytes() != 0 || r.Size() != 0 || r.Count() != 0 || r.Down() {
			t.Error(what, "has something")
		}
	}
}

// R3: what is handed in is not changed and not kept, nor the room behind it; what is answered is new memory.
func TestNothingShared(t *testing.T) {
	for _, c := range [][2]int{{0, 64}, {60, 8}, {0, 65}, {1, 127}, {0, 128}} {
		_, r := made(t)
		room := slices.Repeat(x, 3)
		b := room[:c[1]]
		wantErr(t, "Write", r.Write(c[0], b), api.OK)
		if !bytes.Equal(room, slices.Repeat(x, 3)) {
			t.Errorf("Write(%d, %d bytes) changes what it is handed", c[0], c[1])
		}
		want := slices.Repeat(x, 2)[:c[1]]
		clear(room)
		wantRead(t, r, c[0], want)
		out, _ := r.Read(c[0], c[1])
		clear(out)
		wantRead(t, r, c[0], want)
	}
}

// R7: calls on regions of different devices may be made at one time.
func TestAtOneTime(t *testing.T) {
	first, _ := made(t)
	var wait sync.WaitGroup
	for k := range 8 {
		r := of(t, first.Copy(), 0, 4)
		wait.Go(func() {
			for at := range 250 {
				r.Write(at, []byte{byte(k), byte(at), 1})
				wantRead(t, r, at, []byte{byte(k), byte(at), 1})
			}
			wantErr(t, "Sync", r.Sync(), api.OK)
		})
	}
	wait.Wait()
	wantImage(t, "the first one", first, o, o, o, o)
}

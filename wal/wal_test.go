package wal_test

import (
	"bytes"
	"math"
	"slices"
	"sync"
	"testing"

	"gangway/api"
	"gangway/disk"
	"gangway/frame"
	"gangway/power"
	"gangway/region"
	"gangway/wal"
)

// made answers a device of so many sectors of 64 bytes, and the region of all of them but the first and the last.
func made(t *testing.T, sectors int) (*power.Device, *region.Region) {
	t.Helper()
	u, err := disk.New(sectors+2, 64)
	if err != api.OK {
		t.Fatal("no disk:", err)
	}
	d, err := power.New(u)
	if err != api.OK {
		t.Fatal("no device:", err)
	}
	return d, of(t, d, 1, sectors)
}

func of(t *testing.T, d *power.Device, from, count int) *region.Region {
	t.Helper()
	r, err := region.New(d, api.Span{From: from, Count: count})
	if err != api.OK {
		t.Fatalf("no region from %d, count %d: %d", from, count, err)
	}
	return r
}

func logOf(t *testing.T, r *region.Region, epoch, seq uint64) *wal.Log {
	t.Helper()
	l, err := wal.New(r, epoch, seq)
	if err != api.OK || l == nil {
		t.Fatal("no log:", err)
	}
	return l
}

// state is all that can be asked of a log.
type state struct {
	epoch, last, durable uint64
	used, room           int
}

func stateOf(l *wal.Log) state {
	return state{l.Epoch(), l.Last(), l.Durable(), l.Used(), l.Room()}
}

func wantState(t *testing.T, what string, l *wal.Log, want state) {
	t.Helper()
	if s := stateOf(l); s != want {
		t.Errorf("%s: epoch, last, durable, used, room are %v, want %v", what, s, want)
	}
}

func wantErr(t *testing.T, what string, err, want api.Errno) {
	t.Helper()
	if err != want {
		t.Errorf("%s: %d, want %d", what, err, want)
	}
}

func wantAppend(t *testing.T, l *wal.Log, body []byte, want uint64) {
	t.Helper()
	if n, err := l.Append(body); n != want || err != api.OK {
		t.Errorf("Append of %d bytes: %d, %d, want %d", len(body), n, err, want)
	}
}

func wantNoAppend(t *testing.T, l *wal.Log, body int, want api.Errno) {
	t.Helper()
	was := stateOf(l)
	if n, err := l.Append(make([]byte, body)); n != 0 || err != want {
		t.Errorf("Append of %d bytes: %d, %d, want %d", body, n, err, want)
	}
	wantState(t, "what is refused", l, was)
}

func wantCount(t *testing.T, what string, r *region.Region, want int) {
	t.Helper()
	if r.Count() != want {
		t.Errorf("%s: %d operations, want %d", what, r.Count(), want)
	}
}

func sameFrame(a, b api.Frame) bool {
	return a.Epoch == b.Epoch && a.Seq == b.Seq && bytes.Equal(a.Body, b.Body)
}

// wantScan: just these frames are found.
func wantScan(t *testing.T, what string, r *region.Region, epoch, seq uint64, want ...api.Frame) {
	t.Helper()
	size := 0
	for _, f := range want {
		size += 22 + len(f.Body)
	}
	if row, end, err := wal.Scan(r, epoch, seq); err != api.OK || end != size || !slices.EqualFunc(row, want, sameFrame) {
		t.Errorf("%s: Scan(%d, %d): %v, %d, %d, want %v, %d", what, epoch, seq, row, end, err, want, size)
	}
}

// P10.1, P10.2, P10.4, P10.6, P10.7: the chapter's first and fourth example.
func TestExampleFlush(t *testing.T) {
	d, r := made(t, 2)
	l := logOf(t, r, 3, 7)
	wantState(t, "a new one", l, state{3, 7, 7, 0, 128})
	wantErr(t, "Flush of nothing", l.Flush(), api.OK)
	wantAppend(t, l, []byte{1, 2, 3}, 8)
	wantState(t, "appended", l, state{3, 8, 7, 25, 103})
	if d.Count() != 0 || d.Waiting() != 0 {
		t.Error("ahead of a flush the device is touched:", d.Count(), d.Waiting())
	}
	wantErr(t, "Flush", l.Flush(), api.OK)
	wantState(t, "flushed", l, state{3, 8, 8, 25, 103})
	wantCount(t, "read, write, sync", r, 3)
	wantErr(t, "Flush again", l.Flush(), api.OK)
	wantCount(t, "Flush again", r, 3)
	if d.Waiting() != 0 {
		t.Error("what was flushed waits:", d.Waiting())
	}
	wantScan(t, "flushed", r, 3, 7, api.Frame{Epoch: 3, Seq: 8, Body: []byte{1, 2, 3}})
	wantCount(t, "Scan reads both sectors", r, 5)
	for _, c := range [][2]uint64{{3, 8}, {2, 7}, {3, 6}, {4, 7}, {0, 0}} {
		wantScan(t, "not there", r, c[0], c[1])
	}
}

// P10.2, P10.3, P10.5, P10.6: the chapter's second example.
func TestExampleFull(t *testing.T) {
	_, r := made(t, 2)
	l := logOf(t, r, 3, 7)
	wantAppend(t, l, []byte{1, 2, 3}, 8)
	wantAppend(t, l, make([]byte, 32), 9)
	wantState(t, "two frames", l, state{3, 9, 7, 79, 49})
	wantNoAppend(t, l, 28, api.ErrFull)
	wantNoAppend(t, l, 33, api.ErrLong)
	wantAppend(t, l, make([]byte, 27), 10)
	wantState(t, "full", l, state{3, 10, 7, 128, 0})
	for body := range 33 {
		if l.Fits(body) {
			t.Errorf("full: Fits(%d)", body)
		}
		wantNoAppend(t, l, body, api.ErrFull)
	}
	wantNoAppend(t, l, 33, api.ErrLong)
	wantErr(t, "Reset", l.Reset(4), api.OK)
	wantState(t, "reset", l, state{4, 10, 10, 0, 128})
	wantErr(t, "Flush of what was reset", l.Flush(), api.OK)
	wantCount(t, "nothing was flushed", r, 0)
	wantAppend(t, l, nil, 11)
	wantState(t, "begun anew", l, state{4, 11, 10, 22, 106})
}

// P10.2, P10.3: the chapter's third example, and the numbers' last one from both sides.
func TestExampleLastNumber(t *testing.T) {
	_, r := made(t, 2)
	l := logOf(t, r, 0, math.MaxUint64-1)
	if !l.Fits(0) {
		t.Error("the last number is left, and Fits(0) is false")
	}
	wantAppend(t, l, nil, math.MaxUint64)
	wantState(t, "the last number", l, state{0, math.MaxUint64, math.MaxUint64 - 1, 22, 106})
	wantNoAppend(t, l, 0, api.ErrFull)
	wantNoAppend(t, l, 33, api.ErrLong)
	if l.Fits(0) || l.Fits(32) {
		t.Error("no number is left, and a body fits")
	}
	wantErr(t, "Flush", l.Flush(), api.OK)
	wantScan(t, "the last number", r, 0, math.MaxUint64-1, api.Frame{Seq: math.MaxUint64})
	wantErr(t, "Reset", l.Reset(math.MaxUint64), api.OK)
	wantState(t, "reset", l, state{math.MaxUint64, math.MaxUint64, math.MaxUint64, 0, 128})
	wantNoAppend(t, l, 0, api.ErrFull)
	if l.Fits(0) {
		t.Error("reset: no number is left, and a body fits")
	}
	l = logOf(t, r, 9, math.MaxUint64)
	wantState(t, "made behind the last number", l, state{9, math.MaxUint64, math.MaxUint64, 0, 128})
	wantNoAppend(t, l, 0, api.ErrFull)
	wantErr(t, "Flush of nothing", l.Flush(), api.OK)
	wantAppend(t, logOf(t, r, 9, 0), nil, 1)
}

// P10.1: what is no region; whether a device is up plays no part, and nothing is read or written.
func TestNew(t *testing.T) {
	for what, r := range map[string]*region.Region{"nil": nil, "zero": {}} {
		if l, err := wal.New(r, 1, 2); l != nil || err != api.ErrNil {
			t.Errorf("%s: %v, %d", what, l != nil, err)
		}
	}
	d, r := made(t, 3)
	l := logOf(t, r, 1, 2)
	wantState(t, "a new one", l, state{1, 2, 2, 0, 192})
	wantCount(t, "New", r, 0)
	d.Arm(0)
	r.Sync()
	l = logOf(t, r, math.MaxUint64, 0)
	wantState(t, "a new one, down", l, state{math.MaxUint64, 0, 0, 0, 192})
	wantErr(t, "Flush of nothing, down", l.Flush(), api.OK)
	wantAppend(t, l, []byte{5}, 1)
	wantErr(t, "Flush, down", l.Flush(), api.ErrDown)
	wantState(t, "not flushed, down", l, state{math.MaxUint64, 1, 0, 23, 169})
	wantErr(t, "Reset, down", l.Reset(8), api.OK)
	wantState(t, "reset, down", l, state{8, 1, 1, 0, 192})
}

// P10.2, P10.3: Fits says just what Append would do, at every room from none to a whole sector.
func TestFits(t *testing.T) {
	for room := range 65 {
		for body := -2; body < 40; body++ {
			_, r := made(t, 2)
			l := logOf(t, r, 1, 1)
			fillTo(t, l, room)
			want := body >= 0 && body <= 32 && 22+body <= room
			if l.Fits(body) != want {
				t.Errorf("room %d: Fits(%d) is %v", room, body, !want)
			}
			if body < 0 {
				continue
			}
			if n, err := l.Append(make([]byte, body)); (err == api.OK) != want || (n == 0) == want {
				t.Errorf("room %d: Append of %d bytes: %d, %d", room, body, n, err)
			}
		}
	}
	l := logOf(t, firstOf(made(t, 2)), 1, 1)
	for _, body := range []int{math.MinInt, math.MaxInt, math.MaxInt - 21, math.MaxInt - 22, -22, 1 << 32} {
		if l.Fits(body) {
			t.Errorf("Fits(%d)", body)
		}
	}
}

func firstOf(_ *power.Device, r *region.Region) *region.Region {
	return r
}

// fillTo appends to an empty log till so many bytes are left.
func fillTo(t *testing.T, l *wal.Log, room int) {
	t.Helper()
	for l.Room() > room {
		n := min(l.Room()-room, 54)
		if rest := l.Room() - room - n; rest > 0 && rest < 22 {
			n = l.Room() - room - 22
		}
		if _, err := l.Append(make([]byte, n-22)); err != api.OK {
			t.Fatalf("%d bytes cannot be left: %d", room, err)
		}
	}
}

// P10.2: where frames stand, their epoch, number and body; those of no bytes too.
func TestWhereFramesStand(t *testing.T) {
	d, r := made(t, 4)
	l := logOf(t, r, 5, 100)
	var want []byte
	for k, body := range [][]byte{nil, []byte("a"), {}, []byte("gangway"), bytes.Repeat([]byte{7}, 32)} {
		seq := uint64(101 + k)
		b, _ := frame.Put(api.Frame{Epoch: 5, Seq: seq, Body: body})
		want = append(want, b...)
		wantAppend(t, l, body, seq)
		if l.Used() != len(want) {
			t.Errorf("the frame %d: %d bytes used, want %d", seq, l.Used(), len(want))
		}
		if k == 2 {
			wantErr(t, "Flush", l.Flush(), api.OK)
		}
	}
	wantErr(t, "Flush", l.Flush(), api.OK)
	image := bytes.Join(d.Image(), nil)
	if !bytes.Equal(image, slices.Concat(make([]byte, 64), want, make([]byte, len(image)-64-len(want)))) {
		t.Errorf("the device has %v", image)
	}
}

// P10.4: which operations a flush makes: one write of all frames that are not durable, and a sync.
func TestFlushOperations(t *testing.T) {
	for _, c := range []struct {
		durable, more []int // bodies
		operations    int
	}{
		{nil, []int{0}, 3},              // 0 to 22: read, write, sync
		{nil, []int{20, 0}, 2},          // 0 to 64: write, sync
		{nil, []int{20, 1}, 4},          // 0 to 65: write, read, write, sync
		{nil, []int{0, 0, 0}, 4},        // 0 to 66: three frames, as one
		{[]int{3}, []int{32, 27}, 4},    // 25 to 128: read, write, write, sync
		{[]int{20, 0}, []int{0, 20}, 2}, // 64 to 128: write, sync
		{[]int{0}, []int{0}, 3},         // 22 to 44
		{[]int{0}, []int{20}, 3},        // 22 to 64: the sector is not told whole
		{[]int{0, 0}, []int{0}, 5},      // 44 to 66: read, write, read, write, sync
		{[]int{0, 0, 0}, []int{0}, 3},   // 66 to 88
	} {
		_, r := made(t, 2)
		l := logOf(t, r, 1, 0)
		for _, n := range c.durable {
			l.Append(make([]byte, n))
		}
		wantErr(t, "Flush", l.Flush(), api.OK)
		was := r.Count()
		for _, n := range c.more {
			l.Append(make([]byte, n))
		}
		wantErr(t, "Flush", l.Flush(), api.OK)
		if r.Count()-was != c.operations {
			t.Errorf("%v behind %v: %d operations, want %d", c.more, c.durable, r.Count()-was, c.operations)
		}
		l.Flush()
		if r.Count()-was != c.operations {
			t.Errorf("%v behind %v: a second flush makes operations", c.more, c.durable)
		}
	}
}

// P10.4: a flush that is cut off at any of its operations changes nothing of the log; the next one
// writes the same bytes at the same places, with what was appended since.
func TestFlushCutOff(t *testing.T) {
	for n := range 5 { // read, write, read, write, sync
		d, r := made(t, 2)
		l := logOf(t, r, 2, 0)
		wantAppend(t, l, []byte("first"), 1)
		wantErr(t, "Flush", l.Flush(), api.OK)
		wantAppend(t, l, []byte("second"), 2)
		wantAppend(t, l, []byte("3"), 3)
		was := stateOf(l)
		d.Arm(n)
		wantErr(t, "Flush, cut off", l.Flush(), api.ErrDown)
		wantState(t, "cut off", l, was)
		wantErr(t, "Flush, down", l.Flush(), api.ErrDown)
		wantState(t, "down", l, was)
		wantAppend(t, l, []byte("fourth"), 4)
		d.Restart(nil)
		one, two := api.Frame{Epoch: 2, Seq: 1, Body: []byte("first")}, api.Frame{Epoch: 2, Seq: 2, Body: []byte("second")}
		wantScan(t, "all that waited is lost", r, 2, 0, one)
		wantErr(t, "Flush, up again", l.Flush(), api.OK)
		wantState(t, "flushed", l, state{2, 4, 4, was.used + 28, was.room - 28})
		wantScan(t, "flushed", r, 2, 0, one, two,
			api.Frame{Epoch: 2, Seq: 3, Body: []byte("3")}, api.Frame{Epoch: 2, Seq: 4, Body: []byte("fourth")})
	}
}

// P10.5: what the region has stays there till it is written over; old frames are of another epoch.
func TestReset(t *testing.T) {
	_, r := made(t, 2)
	l := logOf(t, r, 1, 0)
	wantAppend(t, l, []byte("a"), 1)
	wantAppend(t, l, []byte("b"), 2)
	wantErr(t, "Flush", l.Flush(), api.OK)
	wantAppend(t, l, []byte("dropped"), 3)
	was := r.Count()
	wantErr(t, "Reset", l.Reset(2), api.OK)
	wantState(t, "reset", l, state{2, 3, 3, 0, 128})
	wantErr(t, "Flush", l.Flush(), api.OK)
	wantCount(t, "Reset and a flush of nothing", r, was)
	a, b := api.Frame{Epoch: 1, Seq: 1, Body: []byte("a")}, api.Frame{Epoch: 1, Seq: 2, Body: []byte("b")}
	wantScan(t, "the old ones", r, 1, 0, a, b)
	wantScan(t, "the new ones", r, 2, 3)
	wantAppend(t, l, []byte("c"), 4)
	wantScan(t, "not flushed", r, 1, 0, a, b)
	wantErr(t, "Flush", l.Flush(), api.OK)
	wantScan(t, "written over", r, 1, 0)
	wantScan(t, "the new one", r, 2, 3, api.Frame{Epoch: 2, Seq: 4, Body: []byte("c")})
	wantState(t, "flushed", l, state{2, 4, 4, 23, 105})
	wantErr(t, "Reset to the same epoch", l.Reset(2), api.OK)
	wantState(t, "reset again", l, state{2, 4, 4, 0, 128})
}

// P10.8: others behind the frames that were appended are told only if they read as the next one.
func TestStaleFrames(t *testing.T) {
	_, r := made(t, 2)
	l := logOf(t, r, 1, 0)
	for _, body := range []string{"a", "b", "c"} {
		l.Append([]byte(body))
	}
	wantErr(t, "Flush", l.Flush(), api.OK)
	again := logOf(t, r, 1, 0)
	wantAppend(t, again, []byte("A"), 1)
	wantErr(t, "Flush", again.Flush(), api.OK)
	wantScan(t, "those that lay there read as the next ones", r, 1, 0,
		api.Frame{Epoch: 1, Seq: 1, Body: []byte("A")},
		api.Frame{Epoch: 1, Seq: 2, Body: []byte("b")}, api.Frame{Epoch: 1, Seq: 3, Body: []byte("c")})
	other := logOf(t, r, 2, 0)
	wantAppend(t, other, []byte("A"), 1)
	wantErr(t, "Flush", other.Flush(), api.OK)
	wantScan(t, "those that lay there are of another epoch", r, 2, 0, api.Frame{Epoch: 2, Seq: 1, Body: []byte("A")})
}

// P10.7: Scan reads all of the region, of whatever size; cut off, it tells nothing.
func TestScan(t *testing.T) {
	for what, r := range map[string]*region.Region{"nil": nil, "zero": {}} {
		if row, end, err := wal.Scan(r, 1, 0); len(row) != 0 || end != 0 || err != api.ErrNil {
			t.Errorf("%s: %v, %d, %d", what, row, end, err)
		}
	}
	for n := range 4 {
		d, r := made(t, 3)
		l := logOf(t, r, 1, 0)
		wantAppend(t, l, []byte("a"), 1)
		wantErr(t, "Flush", l.Flush(), api.OK)
		was := r.Count()
		d.Arm(n)
		if n == 3 {
			wantScan(t, "armed with enough", r, 1, 0, api.Frame{Epoch: 1, Seq: 1, Body: []byte("a")})
		} else if row, end, err := wal.Scan(r, 1, 0); len(row) != 0 || end != 0 || err != api.ErrDown {
			t.Errorf("armed with %d: %v, %d, %d", n, row, end, err)
		}
		if r.Count()-was != n {
			t.Errorf("armed with %d: %d operations", n, r.Count()-was)
		}
	}
}

// P10.7: what waits and isn't durable is read too.
func TestScanOfWhatWaits(t *testing.T) {
	d, r := made(t, 2)
	b, _ := frame.Put(api.Frame{Epoch: 4, Seq: 9, Body: []byte("waits")})
	wantErr(t, "Write", r.Write(0, b), api.OK)
	wantScan(t, "waits", r, 4, 8, api.Frame{Epoch: 4, Seq: 9, Body: []byte("waits")})
	d.Restart(nil)
	wantScan(t, "lost", r, 4, 8)
}

// P10.2 to P10.6, R4: what is no log.
func TestNone(t *testing.T) {
	for what, l := range map[string]*wal.Log{"nil": nil, "zero": {}} {
		for _, n := range []int{0, 1, 32, 33} {
			if seq, err := l.Append(make([]byte, n)); seq != 0 || err != api.ErrNil {
				t.Errorf("%s: Append: %d, %d", what, seq, err)
			}
			if l.Fits(n) || l.Fits(-n) {
				t.Errorf("%s: Fits(%d)", what, n)
			}
		}
		wantErr(t, what, l.Flush(), api.ErrNil)
		wantErr(t, what, l.Reset(3), api.ErrNil)
		wantState(t, what, l, state{})
	}
}

// R3: a body is not changed and not kept, nor the room behind it; what Scan answers is new memory.
func TestNothingShared(t *testing.T) {
	_, r := made(t, 2)
	l := logOf(t, r, 1, 0)
	room := []byte("gangwayroom")
	wantAppend(t, l, room[:7], 1)
	if string(room) != "gangwayroom" {
		t.Errorf("Append changes what it is handed: %q", room)
	}
	clear(room)
	wantAppend(t, l, nil, 2)
	wantErr(t, "Flush", l.Flush(), api.OK)
	first, second := api.Frame{Epoch: 1, Seq: 1, Body: []byte("gangway")}, api.Frame{Epoch: 1, Seq: 2}
	wantScan(t, "what was handed in is changed", r, 1, 0, first, second)
	row, _, _ := wal.Scan(r, 1, 0)
	clear(row[0].Body)
	_ = append(row[0].Body, 1, 2, 3)
	clear(row)
	wantScan(t, "what was answered is changed", r, 1, 0, first, second)
}

// R5: a log uses its region: what is done by others shows there, and a sync makes theirs durable too.
func TestUsesItsRegion(t *testing.T) {
	d, r := made(t, 2)
	l := logOf(t, r, 1, 0)
	other := of(t, d, 0, 1)
	wantErr(t, "Write", other.Write(0, []byte("elsewhere")), api.OK)
	wantErr(t, "Write", r.Write(30, []byte("behind")), api.OK)
	wantAppend(t, l, []byte("x"), 1)
	wantErr(t, "Flush", l.Flush(), api.OK)
	if image := d.Image(); !bytes.HasPrefix(image[0], []byte("elsewhere")) || string(image[1][30:36]) != "behind" {
		t.Errorf("what others wrote is lost: %q", image)
	}
	l.Append(nil)
	d.Arm(0)
	wantErr(t, "Flush", l.Flush(), api.ErrDown)
	if !r.Down() {
		t.Error("the region is not down")
	}
}

// P10.2, P10.4: a log as long as a disk may be, flushed at one time.
func TestLimits(t *testing.T) {
	u, _ := disk.New(65536, 64)
	d, _ := power.New(u)
	r := of(t, d, 0, 65536)
	l := logOf(t, r, 1, 0)
	const frames = 65536 * 64 / 54
	for k := range frames {
		if n, err := l.Append(bytes.Repeat([]byte{byte(k + 1)}, 32)); n != uint64(k+1) || err != api.OK {
			t.Fatalf("the frame %d: %d, %d", k+1, n, err)
		}
	}
	if l.Fits(32) || l.Room() != 65536*64%54 {
		t.Errorf("%d frames, room %d", frames, l.Room())
	}
	wantErr(t, "Flush", l.Flush(), api.OK)
	row, end, err := wal.Scan(r, 1, 0)
	if err != api.OK || end != l.Used() || len(row) != frames {
		t.Fatalf("Scan: %d frames, %d, %d", len(row), end, err)
	}
	for k, f := range row {
		if f.Seq != uint64(k+1) || !bytes.Equal(f.Body, bytes.Repeat([]byte{byte(k + 1)}, 32)) {
			t.Fatalf("the frame %d is %v", k+1, f)
		}
	}
}

// R7: calls on logs over different devices may be made at one time.
func TestAtOneTime(t *testing.T) {
	first, _ := made(t, 4)
	var wait sync.WaitGroup
	for k := range 8 {
		r := of(t, first.Copy(), 1, 4)
		l := logOf(t, r, uint64(k), 0)
		wait.Go(func() {
			var want []api.Frame
			for n := range 10 {
				body := []byte{byte(k), byte(n)}
				want = append(want, api.Frame{Epoch: uint64(k), Seq: uint64(n + 1), Body: body})
				wantAppend(t, l, body, uint64(n+1))
				wantErr(t, "Flush", l.Flush(), api.OK)
			}
			wantScan(t, "at one time", r, uint64(k), 0, want...)
		})
	}
	wait.Wait()
	wantCount(t, "the first one", of(t, first, 1, 4), 0)
}

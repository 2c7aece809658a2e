package wal_test

import (
	"bytes"
	"math"
	"slices"
	"testing"

	"gangway/api"
	"gangway/disk"
	"gangway/frame"
	"gangway/power"
	"gangway/region"
	"gangway/wal"
)

// model is a log as the chapter's words say it: all frames since its begin, written or not.
type model struct {
	region  *region.Region
	epoch   uint64
	begin   uint64 // the number behind which it began, or was reset
	last    uint64
	durable uint64
	frames  []api.Frame
}

func newModel(r *region.Region, epoch, seq uint64) *model {
	return &model{region: r, epoch: epoch, begin: seq, last: seq, durable: seq}
}

func (m *model) used() int {
	n := 0
	for _, f := range m.frames {
		n += 22 + len(f.Body)
	}
	return n
}

func (m *model) state() state {
	return state{m.epoch, m.last, m.durable, m.used(), m.region.Bytes() - m.used()}
}

func (m *model) append(body []byte) (uint64, api.Errno) {
	switch {
	case len(body) > 32:
		return 0, api.ErrLong
	case m.last == math.MaxUint64 || 22+len(body) > m.region.Bytes()-m.used():
		return 0, api.ErrFull
	}
	m.last++
	m.frames = append(m.frames, api.Frame{Epoch: m.epoch, Seq: m.last, Body: bytes.Clone(body)})
	return m.last, api.OK
}

func (m *model) flush() api.Errno {
	if m.durable == m.last {
		return api.OK
	}
	at := 0
	var more []byte
	for _, f := range m.frames {
		b, _ := frame.Put(f)
		if f.Seq <= m.durable {
			at += len(b)
		} else {
			more = append(more, b...)
		}
	}
	if err := m.region.Write(at, more); err != api.OK {
		return err
	}
	if err := m.region.Sync(); err != api.OK {
		return err
	}
	m.durable = m.last
	return api.OK
}

func (m *model) reset(epoch uint64) {
	*m = *newModel(m.region, epoch, m.last)
}

// whole answers the frames up to the number that is durable.
func (m *model) whole() []api.Frame {
	var l []api.Frame
	for _, f := range m.frames {
		if f.Seq <= m.durable {
			l = append(l, f)
		}
	}
	return l
}

// numbers answers a function that tells numbers below a bound, the same ones for one seed.
func numbers(seed uint64) func(below int) int {
	n := seed
	return func(below int) int {
		n = n*6364136223846793005 + 1442695040888963407
		return int(n >> 33 % uint64(below))
	}
}

func someBytes(chance func(int) int, count int) []byte {
	b := make([]byte, count)
	for i := range b {
		b[i] = byte(chance(256))
	}
	return b
}

// someDevice answers a device whose durable bytes are any.
func someDevice(t *testing.T, chance func(int) int, sectors, size int) *power.Device {
	t.Helper()
	var image [][]byte
	for range sectors {
		image = append(image, someBytes(chance, size))
	}
	u, err := disk.Of(image)
	if err != api.OK {
		t.Fatal("no disk:", err)
	}
	d, err := power.New(u)
	if err != api.OK {
		t.Fatal("no device:", err)
	}
	return d
}

// someFates answers as many fates as there are writes that wait, or nearly.
func someFates(chance func(int) int, waiting, size int) []api.Fate {
	var l []api.Fate
	for range waiting - chance(2) {
		l = append(l, api.Fate{Kind: api.FateKind(chance(3)), At: chance(size + 1)})
	}
	return l
}

// wantSame: two devices are in one state, down to what each write that waits would leave.
func wantSame(t *testing.T, d, want *power.Device) {
	t.Helper()
	if d.Down() != want.Down() || d.Count() != want.Count() || d.Waiting() != want.Waiting() {
		t.Fatalf("down %v, count %d, waiting %d; want %v, %d, %d",
			d.Down(), d.Count(), d.Waiting(), want.Down(), want.Count(), want.Waiting())
	}
	wantSameImage(t, "durable", d, want)
	for kept := range d.Waiting() { // one write alone is kept: so their order and their bytes are the same
		fates := make([]api.Fate, kept+1)
		fates[kept].Kind = api.FateKeep
		a, b := d.Copy(), want.Copy()
		a.Restart(fates)
		b.Restart(fates)
		wantSameImage(t, "one write kept", a, b)
	}
}

func wantSameImage(t *testing.T, what string, d, want *power.Device) {
	t.Helper()
	if a, b := d.Image(), want.Image(); !slices.EqualFunc(a, b, bytes.Equal) {
		t.Fatalf("%s: the image is %v, want %v", what, a, b)
	}
}

// wantBegin: the frames that Scan tells begin with these.
func wantBegin(t *testing.T, what string, m *model, r *region.Region, want []api.Frame) {
	t.Helper()
	row, _, err := wal.Scan(r, m.epoch, m.begin)
	if err != api.OK || len(row) < len(want) || !slices.EqualFunc(row[:len(want)], want, sameFrame) {
		t.Fatalf("%s: Scan(%d, %d): %v, %d, want first %v", what, m.epoch, m.begin, row, err, want)
	}
}

// step does one thing to the log and the model alike, and holds their answers against each other.
func step(t *testing.T, chance func(int) int, l *wal.Log, m *model) {
	t.Helper()
	switch what := chance(16); {
	case what < 9:
		body := someBytes(chance, chance(35))
		fits := l.Fits(len(body))
		n, err := l.Append(body)
		if want, wantErr := m.append(body); n != want || err != wantErr || fits != (err == api.OK) {
			t.Fatalf("Append of %d bytes: %d, %d, want %d, %d; Fits was %v", len(body), n, err, want, wantErr, fits)
		}
	case what < 15:
		if err, want := l.Flush(), m.flush(); err != want {
			t.Fatalf("Flush: %d, want %d", err, want)
		}
	default:
		epoch := l.Epoch() + uint64(chance(3))
		m.reset(epoch)
		wantErr(t, "Reset", l.Reset(epoch), api.OK)
	}
}

// P10.1 to P10.6, P10.8: a log over a device that is armed, cut off and crashes with any fates, step by
// step as the model over a device of its own; what is durable is found at each step that the device is up.
func TestAsModel(t *testing.T) {
	for seed := range 150 {
		chance := numbers(uint64(seed))
		size, sectors := 64<<chance(2), 3+chance(5)
		d := someDevice(t, chance, sectors, size)
		twin := d.Copy()
		span := api.Span{From: chance(2), Count: sectors - 2}
		r, err := region.New(d, span)
		wantErr(t, "a region", err, api.OK)
		of, err := region.New(twin, span)
		wantErr(t, "a twin's region", err, api.OK)
		epoch, seq := uint64(chance(4))-2, uint64(chance(100))-50
		l, m := logOf(t, r, epoch, seq), newModel(of, epoch, seq)
		for range 60 {
			switch chance(8) {
			case 0:
				n := chance(9) - 1
				d.Arm(n)
				twin.Arm(n)
			case 1:
				fates := someFates(chance, d.Waiting(), size)
				d.Restart(fates)
				twin.Restart(fates)
			default:
				step(t, chance, l, m)
			}
			if s := stateOf(l); s != m.state() {
				t.Fatalf("the log is %v, want %v", s, m.state())
			}
			wantSame(t, d, twin)
			up := d.Copy()
			up.Arm(-1)
			if found, err := region.New(up, span); err == api.OK && !up.Down() {
				wantBegin(t, "durable", m, found, m.whole())
			}
		}
	}
}

// allFates hands on every row of so many fates, torn ones at some places.
func allFates(count, size int, do func([]api.Fate)) {
	kinds := []api.Fate{{Kind: api.FateLose}, {Kind: api.FateKeep}}
	for _, at := range []int{1, 13, 37, size - 1} {
		kinds = append(kinds, api.Fate{Kind: api.FateTear, At: at})
	}
	row := make([]api.Fate, count)
	var from func(int)
	from = func(k int) {
		if k == count {
			do(row)
			return
		}
		for _, f := range kinds {
			row[k] = f
			from(k + 1)
		}
	}
	from(0)
}

// P10.4, P10.8: a flush that is cut off at each of its operations, with each fate of what waits: the
// durable frames are found, nothing lies beyond what is used, and the next flush comes to what one that
// was not cut off comes to.
func TestEveryCut(t *testing.T) {
	chance := numbers(11)
	span := api.Span{From: 1, Count: 3}
	first := someDevice(t, chance, 5, 64)
	for _, durable := range [][]int{nil, {3}, {20, 0}, {32, 10}, {0, 0, 9}} {
		start := func(d *power.Device) (*wal.Log, *region.Region, *model) {
			r, err := region.New(d, span)
			wantErr(t, "a region", err, api.OK)
			l, m := logOf(t, r, 6, 40), newModel(r, 6, 40)
			for _, n := range durable {
				body := bytes.Repeat([]byte{byte(n)}, n)
				l.Append(body)
				m.append(body)
			}
			wantErr(t, "Flush", l.Flush(), api.OK)
			m.durable = m.last
			for _, body := range []string{"more that is appended", "", "some"} {
				l.Append([]byte(body))
				m.append([]byte(body))
			}
			return l, r, m
		}
		whole := first.Copy()
		l, _, _ := start(whole)
		was := whole.Count()
		wantErr(t, "Flush", l.Flush(), api.OK)
		operations := whole.Count() - was
		for n := range operations {
			cut := first.Copy()
			l, _, _ := start(cut)
			cut.Arm(n)
			wantErr(t, "Flush, cut off", l.Flush(), api.ErrDown)
			allFates(cut.Waiting(), 64, func(fates []api.Fate) {
				d := first.Copy()
				l, r, m := start(d)
				d.Arm(n)
				l.Flush()
				d.Restart(fates)
				wantBegin(t, "behind a crash", m, r, m.whole())
				wantKept(t, d, first, 64+l.Used())
				wantErr(t, "Flush, up again", l.Flush(), api.OK)
				wantSameImage(t, "flushed again", d, whole)
				wantBegin(t, "flushed again", m, r, m.frames)
			})
		}
	}
}

// wantKept: ahead of the region and behind what is used a device has what it had at first.
func wantKept(t *testing.T, d, first *power.Device, end int) {
	t.Helper()
	a, b := bytes.Join(d.Image(), nil), bytes.Join(first.Image(), nil)
	if !bytes.Equal(a[:64], b[:64]) || !bytes.Equal(a[end:], b[end:]) {
		t.Fatalf("what is not used is written: %v, want %v", a, b)
	}
}

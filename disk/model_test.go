package disk_test

import (
	"bytes"
	"math"
	"testing"

	"gangway/api"
	"gangway/disk"
)

// waits is a write of a model.
type waits struct {
	at    int
	bytes []byte
}

// model is a disk as the chapter's words say it: what is found is sought in the row of writes, and
// what becomes durable is told byte by byte.
type model struct {
	durable [][]byte
	row     []waits
}

func newModel(sectors, size int) *model {
	m := &model{}
	for range sectors {
		m.durable = append(m.durable, make([]byte, size))
	}
	return m
}

func (m *model) found(at int) []byte {
	for i := len(m.row) - 1; i >= 0; i-- {
		if m.row[i].at == at {
			return m.row[i].bytes
		}
	}
	return m.durable[at]
}

func (m *model) write(at int, b []byte) {
	m.row = append(m.row, waits{at, bytes.Clone(b)})
}

func (m *model) crash(fates []api.Fate) {
	for i, w := range m.row {
		for k, x := range w.bytes {
			if i < len(fates) && survives(fates[i], k) {
				m.durable[w.at][k] = x
			}
		}
	}
	m.row = nil
}

func (m *model) sync() {
	for _, w := range m.row {
		m.durable[w.at] = w.bytes
	}
	m.row = nil
}

func (m *model) copy() *model {
	c := &model{row: append([]waits(nil), m.row...)}
	for _, b := range m.durable {
		c.durable = append(c.durable, bytes.Clone(b))
	}
	return c
}

// survives tells whether the byte at the place k of a write becomes durable.
func survives(f api.Fate, k int) bool {
	return f.Kind == api.FateKeep || f.Kind == api.FateTear && k < f.At
}

// wantAs: the disk answers all questions as the model does.
func wantAs(t *testing.T, d *disk.Disk, m *model) {
	t.Helper()
	if d.Sectors() != len(m.durable) || d.Size() != len(m.durable[0]) || d.Waiting() != len(m.row) {
		t.Fatalf("%d sectors of %d bytes, %d wait; want %d, %d, %d",
			d.Sectors(), d.Size(), d.Waiting(), len(m.durable), len(m.durable[0]), len(m.row))
	}
	image := d.Image()
	if len(image) != len(m.durable) {
		t.Fatalf("the image has %d sectors, want %d", len(image), len(m.durable))
	}
	for at := range m.durable {
		if !bytes.Equal(image[at], m.durable[at]) {
			t.Fatalf("durable at %d: %v, want %v", at, image[at], m.durable[at])
		}
		if b, err := d.Read(at); err != api.OK || !bytes.Equal(b, m.found(at)) {
			t.Fatalf("found at %d: %v, %d, want %v", at, b, err, m.found(at))
		}
	}
}

// numbers answers a function that tells numbers below a bound, the same ones for one seed.
func numbers(seed uint64) func(below int) int {
	x := seed
	return func(below int) int {
		x = x*6364136223846793005 + 1442695040888963407
		return int(x >> 33 % uint64(below))
	}
}

func someFates(chance func(int) int, count, size int) []api.Fate {
	places := []int{math.MinInt, -1, 0, 1, size / 2, size - 1, size, size + 1, math.MaxInt}
	var l []api.Fate
	for range count {
		kind := api.FateKind(chance(5) - 1) // with one on each side of the kinds that there are
		l = append(l, api.Fate{Kind: kind, At: places[chance(len(places))]})
	}
	return l
}

func someBytes(chance func(int) int, size int) []byte {
	b := make([]byte, size)
	for i := range b {
		b[i] = byte(chance(256))
	}
	return b
}

// P5.1 to P5.6: disks that are written, synced, cut off and copied, each step as the model.
func TestAsModel(t *testing.T) {
	for seed := range 60 {
		chance := numbers(uint64(seed))
		sectors, size := 1+chance(5), 64<<chance(3)
		d, m := made(t, sectors, size), newModel(sectors, size)
		for range 80 {
			switch what := chance(20); {
			case what < 14:
				at, b := chance(sectors), someBytes(chance, size)
				if err := d.Write(at, b); err != api.OK {
					t.Fatal("a write is refused:", err)
				}
				m.write(at, b)
			case what < 16:
				if err := d.Sync(); err != api.OK {
					t.Fatal("a sync is refused:", err)
				}
				m.sync()
			case what < 18:
				fates := someFates(chance, chance(len(m.row)+3), size)
				if err := d.Crash(fates); err != api.OK {
					t.Fatal("a crash is refused:", err)
				}
				m.crash(fates)
			case what < 19:
				d = changedBeside(t, d)
			default:
				d, _ = disk.Of(d.Image())
				m = &model{durable: m.copy().durable}
			}
			wantAs(t, d, m)
		}
	}
}

// changedBeside answers a copy of d, and lets d itself go on otherwise.
func changedBeside(t *testing.T, d *disk.Disk) *disk.Disk {
	t.Helper()
	c := d.Copy()
	d.Write(0, bytes.Repeat([]byte{1}, d.Size()))
	d.Sync()
	d.Write(0, bytes.Repeat([]byte{2}, d.Size()))
	return c
}

// P5.6: what follows, of rows of writes of many kinds.
func TestWhatFollows(t *testing.T) {
	for seed := range 40 {
		chance := numbers(uint64(seed) + 1000)
		first := made(t, 3, 64)
		for range chance(6) {
			first.Write(chance(3), someBytes(chance, 64))
		}
		first.Sync()
		before := first.Image()
		for range 1 + chance(6) {
			first.Write(chance(2), someBytes(chance, 64))
		}

		kept, synced, lost, torn := first.Copy(), first.Copy(), first.Copy(), first.Copy()
		kept.Crash(allOf(api.Fate{Kind: api.FateKeep}, first.Waiting()))
		synced.Sync()
		lost.Crash(nil)
		torn.Crash(someFates(chance, first.Waiting(), 64))
		if !sameImage(kept.Image(), synced.Image()) {
			t.Error("a crash that keeps all is no sync")
		}
		if !sameImage(lost.Image(), before) {
			t.Error("a crash without fates changes the image")
		}
		if !bytes.Equal(torn.Image()[2], before[2]) {
			t.Error("a crash changes a sector that no write waits for")
		}
		if first.Waiting() == 0 || !sameImage(first.Image(), before) {
			t.Error("what is done to copies shows in their disk")
		}
	}
}

func allOf(f api.Fate, count int) []api.Fate {
	var l []api.Fate
	for range count {
		l = append(l, f)
	}
	return l
}

func sameImage(a, b [][]byte) bool {
	if len(a) != len(b) {
		return false
	}
	for i := range a {
		if !bytes.Equal(a[i], b[i]) {
			return false
		}
	}
	return true
}

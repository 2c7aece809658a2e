package disk_test

import (
	"bytes"
	"math"
	"slices"
	"sync"
	"testing"

	"gangway/api"
	"gangway/disk"
)

var (
	lose = api.Fate{Kind: api.FateLose}
	keep = api.Fate{Kind: api.FateKeep}
)

func tear(at int) api.Fate {
	return api.Fate{Kind: api.FateTear, At: at}
}

func row(x byte, count int) []byte {
	return bytes.Repeat([]byte{x}, count)
}

func made(t *testing.T, sectors, size int) *disk.Disk {
	t.Helper()
	d, err := disk.New(sectors, size)
	if err != api.OK || d == nil {
		t.Fatalf("New(%d, %d): %v, %d", sectors, size, d, err)
	}
	return d
}

func write(t *testing.T, d *disk.Disk, at int, b []byte) {
	t.Helper()
	if err := d.Write(at, b); err != api.OK {
		t.Fatalf("Write(%d, %d bytes): %d", at, len(b), err)
	}
}

func wantFound(t *testing.T, what string, d *disk.Disk, at int, want []byte) {
	t.Helper()
	if b, err := d.Read(at); err != api.OK || !bytes.Equal(b, want) {
		t.Errorf("%s: Read(%d): %q, %d, want %q", what, at, b, err, want)
	}
}

func wantImage(t *testing.T, what string, d *disk.Disk, want ...[]byte) {
	t.Helper()
	if image := d.Image(); !sameImage(image, want) {
		t.Errorf("%s: the image is %q, want %q", what, image, want)
	}
}

// P5.2, P5.5: the chapter's first example; what was refused changes nothing.
func TestFirstExample(t *testing.T) {
	d := made(t, 2, 64)
	if err := d.Write(1, row('A', 64)); err != api.OK {
		t.Error("Write:", err)
	}
	for range 2 {
		wantFound(t, "written", d, 1, row('A', 64))
		wantFound(t, "not written", d, 0, row(0, 64))
		wantImage(t, "not synced", d, row(0, 64), row(0, 64))
		if d.Waiting() != 1 {
			t.Error("Waiting:", d.Waiting())
		}
		if err := d.Write(2, row('A', 64)); err != api.ErrSector {
			t.Error("Write(2):", err)
		}
		if b, err := d.Read(-1); err != api.ErrSector || len(b) != 0 {
			t.Error("Read(-1):", b, err)
		}
		if err := d.Write(0, row('A', 63)); err != api.ErrLong {
			t.Error("Write of 63 bytes:", err)
		}
	}
}

// P5.4: the chapter's second example, and more of two writes of one sector.
func TestFates(t *testing.T) {
	a, b, n := row('A', 64), row('B', 64), row(0, 64)
	tests := []struct {
		fates []api.Fate
		want  []byte
	}{
		{[]api.Fate{keep, tear(3)}, slices.Concat(b[:3], a[3:])},
		{[]api.Fate{lose, tear(100)}, b},
		{nil, n},
		{[]api.Fate{}, n},
		{[]api.Fate{keep}, a},
		{[]api.Fate{tear(-1), keep}, b},
		{[]api.Fate{{Kind: 7}, {Kind: -1}}, n},
		{[]api.Fate{{Kind: 3, At: 64}, {Kind: math.MaxInt, At: 64}}, n},
		{[]api.Fate{{Kind: math.MinInt, At: 64}, {Kind: api.FateLose, At: 64}}, n},
		{[]api.Fate{{Kind: api.FateKeep, At: -5}, lose}, a}, // At says nothing of what is kept
		{[]api.Fate{{Kind: api.FateKeep, At: 5}, lose}, a},
		{[]api.Fate{keep, keep}, b},
		{[]api.Fate{keep, lose}, a},
		{[]api.Fate{lose, keep}, b},
		{[]api.Fate{keep, lose, keep, tear(9)}, a},
		{[]api.Fate{lose, lose, keep, keep}, n},
		{[]api.Fate{tear(10), lose}, slices.Concat(a[:10], n[10:])},
		{[]api.Fate{tear(10), tear(4)}, slices.Concat(b[:4], a[:6], n[10:])},
		{[]api.Fate{tear(4), tear(10)}, slices.Concat(b[:10], n[10:])},
		{[]api.Fate{lose, tear(0)}, n},
		{[]api.Fate{lose, tear(1)}, slices.Concat(b[:1], n[1:])},
		{[]api.Fate{lose, tear(63)}, slices.Concat(b[:63], n[63:])},
		{[]api.Fate{lose, tear(64)}, b},
		{[]api.Fate{lose, tear(65)}, b},
		{[]api.Fate{lose, tear(math.MaxInt)}, b},
		{[]api.Fate{keep, tear(math.MinInt)}, a},
	}
	for _, c := range tests {
		d := made(t, 2, 64)
		write(t, d, 1, a)
		write(t, d, 1, b)
		wantFound(t, "twice written", d, 1, b)
		fates := slices.Clone(c.fates)
		if err := d.Crash(c.fates); err != api.OK || d.Waiting() != 0 {
			t.Error(c.fates, "leads to", err, d.Waiting())
		}
		wantFound(t, "after the crash", d, 1, c.want)
		wantImage(t, "after the crash", d, n, c.want)
		if !slices.Equal(c.fates, fates) {
			t.Error("fates are changed:", c.fates, fates)
		}
		d.Crash([]api.Fate{keep, keep}) // nothing waits any more
		wantImage(t, "after a second crash", d, n, c.want)
	}
}

// P5.4: fates go by the writes' order, not by the sectors'.
func TestFatesGoByWrites(t *testing.T) {
	d := made(t, 3, 64)
	write(t, d, 2, row('A', 64))
	write(t, d, 0, row('B', 64))
	write(t, d, 2, row('C', 64))
	write(t, d, 1, row('D', 64))
	if d.Waiting() != 4 {
		t.Error("Waiting:", d.Waiting())
	}
	d.Crash([]api.Fate{keep, lose, tear(2), keep})
	wantImage(t, "crash", d, row(0, 64), row('D', 64), slices.Concat(row('C', 2), row('A', 62)))
}

// P5.3, P5.6: the chapter's third example; syncs go in the order of the writes.
func TestSync(t *testing.T) {
	d := made(t, 2, 64)
	if err := d.Sync(); err != api.OK {
		t.Error("Sync of nothing:", err)
	}
	write(t, d, 0, row('A', 64))
	if err := d.Sync(); err != api.OK || d.Waiting() != 0 {
		t.Error("Sync:", err, d.Waiting())
	}
	wantImage(t, "synced", d, row('A', 64), row(0, 64))
	write(t, d, 0, row('B', 64))
	d.Crash(nil)
	wantFound(t, "synced", d, 0, row('A', 64))

	write(t, d, 1, row('C', 64))
	write(t, d, 1, row('D', 64))
	write(t, d, 1, row('D', 64))
	if d.Waiting() != 3 {
		t.Error("Waiting:", d.Waiting())
	}
	d.Sync()
	wantImage(t, "synced in order", d, row('A', 64), row('D', 64))
	d.Crash([]api.Fate{tear(5)})
	wantImage(t, "synced, then a crash", d, row('A', 64), row('D', 64))
}

// P5.6: torn writes of the same first bytes keep these.
func TestTornAlike(t *testing.T) {
	d := made(t, 1, 64)
	write(t, d, 0, row('A', 64))
	d.Sync()
	for _, x := range []byte("BCD") {
		write(t, d, 0, slices.Concat(row('A', 9), row(x, 55)))
	}
	d.Crash([]api.Fate{tear(9), tear(3), tear(7)})
	wantImage(t, "torn", d, row('A', 64))
}

// P5.1: the chapter's fourth example, the limits, and one past each.
func TestNew(t *testing.T) {
	for _, c := range [][2]int{
		{0, 64}, {-1, 64}, {math.MinInt, 64}, {65537, 64}, {math.MaxInt, 64}, {1 << 58, 64},
		{1, 63}, {1, 65}, {1, 96}, {1, 0}, {1, 1}, {1, 2}, {1, 32}, {1, -64}, {1, 4095}, {1, 4097}, {1, 8192},
		{1, math.MinInt}, {1, math.MaxInt}, {0, 0}, {-64, -64}, {math.MinInt, math.MinInt},
		{32768, 4096}, {16385, 4096}, {65536, 2048}, {32769, 2048}, {65536, 4096},
	} {
		if d, err := disk.New(c[0], c[1]); d != nil || err != api.ErrArg {
			t.Errorf("New(%d, %d): %v, %d", c[0], c[1], d != nil, err)
		}
	}
	for _, c := range [][2]int{
		{1, 64}, {1, 128}, {1, 256}, {1, 512}, {1, 1024}, {1, 2048}, {1, 4096}, {3, 64},
		{16384, 4096}, {32768, 2048}, {65536, 1024}, {65536, 64},
	} {
		d := made(t, c[0], c[1])
		if d.Sectors() != c[0] || d.Size() != c[1] || d.Waiting() != 0 {
			t.Errorf("New(%d, %d): %d, %d, %d", c[0], c[1], d.Sectors(), d.Size(), d.Waiting())
		}
		for _, at := range []int{0, c[0] / 2, c[0] - 1} {
			wantFound(t, "new", d, at, make([]byte, c[1]))
		}
		if b, err := d.Read(c[0]); err != api.ErrSector || len(b) != 0 {
			t.Errorf("New(%d, %d), one past the last: %d", c[0], c[1], err)
		}
	}
}

// P5.1: what Of takes, and what it refuses.
func TestOf(t *testing.T) {
	a, b := row('A', 64), row('B', 64)
	for i, image := range [][][]byte{
		nil, {}, {nil}, {{}}, {a, b[:63]}, {b[:63], a}, {a, b, nil}, {a, b, row('C', 128)}, {row('C', 128), a},
		{row('A', 63)}, {row('A', 65)}, {row('A', 96)}, {row('A', 32)}, {row('A', 8192)},
		slices.Repeat([][]byte{a}, 65537), slices.Repeat([][]byte{row('A', 4096)}, 16385),
		append(slices.Repeat([][]byte{a}, 65535), nil),
	} {
		if d, err := disk.Of(image); d != nil || err != api.ErrArg {
			t.Errorf("image %d, of %d sectors: %d", i, len(image), err)
		}
	}
	for i, image := range [][][]byte{
		{a, b}, {a}, {row('A', 4096), row('B', 4096)}, {a, b, a, b, make([]byte, 64)}, slices.Repeat([][]byte{a, b}, 32768),
	} {
		d, err := disk.Of(image)
		if err != api.OK || d.Sectors() != len(image) || d.Size() != len(image[0]) || d.Waiting() != 0 {
			t.Fatalf("image %d: %d, %d, %d, %d", i, err, d.Sectors(), d.Size(), d.Waiting())
		}
		if !sameImage(d.Image(), image) {
			t.Errorf("image %d is another one", i)
		}
		last := len(image) - 1
		wantFound(t, "of an image", d, last, image[last])
	}
}

// P5.2: the order of the errors, and that what is refused changes nothing.
func TestRefused(t *testing.T) {
	d := made(t, 2, 64)
	write(t, d, 0, row('A', 64))
	for _, at := range []int{math.MinInt, -64, -1, 2, 3, 128, 1 << 40, 1 << 58, math.MaxInt} {
		for _, b := range [][]byte{nil, row('A', 63), row('A', 64), row('A', 65)} {
			if err := d.Write(at, b); err != api.ErrSector {
				t.Errorf("Write(%d, %d bytes): %d", at, len(b), err)
			}
		}
		if b, err := d.Read(at); err != api.ErrSector || len(b) != 0 {
			t.Errorf("Read(%d): %v, %d", at, b, err)
		}
	}
	for _, count := range []int{0, 1, 32, 63, 65, 128} {
		if err := d.Write(1, row('A', count)); err != api.ErrLong {
			t.Errorf("Write of %d bytes: %d", count, err)
		}
	}
	if d.Waiting() != 1 {
		t.Error("Waiting:", d.Waiting())
	}
	wantFound(t, "refused", d, 1, row(0, 64))
	d.Sync()
	wantImage(t, "refused", d, row('A', 64), row(0, 64))
}

// P5.1 to P5.5, R4: what is no disk.
func TestNone(t *testing.T) {
	for what, d := range map[string]*disk.Disk{"nil": nil, "zero": {}} {
		for _, at := range []int{-1, 0, 1} {
			for _, b := range [][]byte{nil, row('A', 64)} {
				if err := d.Write(at, b); err != api.ErrNil {
					t.Errorf("%s: Write(%d): %d", what, at, err)
				}
			}
			if b, err := d.Read(at); err != api.ErrNil || len(b) != 0 {
				t.Errorf("%s: Read(%d): %v, %d", what, at, b, err)
			}
		}
		if s, c, e := d.Sync(), d.Crash(nil), d.Crash([]api.Fate{keep}); s != api.ErrNil || c != api.ErrNil || e != api.ErrNil {
			t.Error(what, s, c, e)
		}
		if d.Sectors() != 0 || d.Size() != 0 || d.Waiting() != 0 || len(d.Image()) != 0 || d.Copy() != nil {
			t.Error(what, "has something")
		}
	}
}

// P5.2, P5.5, R3: what is handed in is not kept, and what is answered is new memory.
func TestNothingShared(t *testing.T) {
	image := [][]byte{row('A', 64), row('B', 64)}
	d, _ := disk.Of(image)
	image[0][0], image[1] = 'x', nil
	wantImage(t, "what made it is changed", d, row('A', 64), row('B', 64))

	room := row('C', 70)
	write(t, d, 0, room[:64])
	room[0] = 'x'
	wantFound(t, "what was written is changed", d, 0, row('C', 64))

	for range 2 {
		for at := range 2 { // the first sector is found in what waits, the second one in what is durable
			b, _ := d.Read(at)
			clear(b)
		}
		out := d.Image()
		_ = append(out[0], row('y', 64)...)
		if !bytes.Equal(out[1], row('B', 64)) {
			t.Error("two sectors of an image share memory")
		}
		clear(out[0])
		out[1] = nil
		wantFound(t, "answers are changed", d, 0, row('C', 64))
		wantImage(t, "answers are changed", d, row('A', 64), row('B', 64))
	}
	d.Sync()
	wantImage(t, "synced", d, row('C', 64), row('B', 64))
	if !bytes.Equal(room[1:], row('C', 69)) {
		t.Error("what is handed in is changed")
	}
}

// P5.1, P5.6, R5: a copy and its disk know nothing of one another, on both ways.
func TestCopy(t *testing.T) {
	first := made(t, 2, 64)
	write(t, first, 0, row('A', 64))
	first.Sync()
	write(t, first, 0, row('B', 64))
	write(t, first, 1, row('C', 64))
	write(t, first, 0, row('D', 64))

	c := first.Copy()
	if c.Sectors() != 2 || c.Size() != 64 || c.Waiting() != 3 {
		t.Error("a copy is otherwise:", c.Sectors(), c.Size(), c.Waiting())
	}
	write(t, first, 1, row('E', 64))
	wantFound(t, "the copy", c, 1, row('C', 64))
	write(t, c, 1, row('F', 64))
	write(t, c, 1, row('G', 64))
	wantFound(t, "the disk", first, 1, row('E', 64))
	if first.Waiting() != 4 || c.Waiting() != 5 {
		t.Error("Waiting:", first.Waiting(), c.Waiting())
	}

	c.Crash([]api.Fate{keep, tear(2), tear(1), lose, lose})
	wantImage(t, "the copy", c, slices.Concat(row('D', 1), row('B', 63)), slices.Concat(row('C', 2), row(0, 62)))
	wantImage(t, "the disk", first, row('A', 64), row(0, 64))
	wantFound(t, "the disk", first, 0, row('D', 64))
	first.Sync()
	wantImage(t, "the disk", first, row('D', 64), row('E', 64))
	wantImage(t, "the copy", c, slices.Concat(row('D', 1), row('B', 63)), slices.Concat(row('C', 2), row(0, 62)))
}

// R7: calls on disks that share nothing may be made at one time.
func TestAtOneTime(t *testing.T) {
	first := made(t, 4, 64)
	write(t, first, 3, row('A', 64))
	var wait sync.WaitGroup
	for k := range 8 {
		c := first.Copy()
		wait.Go(func() {
			for i := range 100 {
				if err := c.Write(i%3, row(byte(i+k), 64)); err != api.OK {
					t.Error("a write at one time with others:", err)
				}
				if i%10 == 0 {
					c.Sync()
				}
			}
			c.Crash([]api.Fate{keep})
			wantFound(t, "at one time with others", c, 3, row('A', 64))
			wantFound(t, "at one time with others", c, 1, row(byte(91+k), 64))
		})
	}
	wait.Wait()
	if first.Waiting() != 1 {
		t.Error("Waiting:", first.Waiting())
	}
}

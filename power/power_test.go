package power_test

import (
	"bytes"
	"math"
	"slices"
	"sync"
	"testing"

	"gangway/api"
	"gangway/disk"
	"gangway/power"
)

var (
	keep = api.Fate{Kind: api.FateKeep}
	x    = bytes.Repeat([]byte{'x'}, 64)
	y    = bytes.Repeat([]byte{'y'}, 64)
	o    = make([]byte, 64)
)

func tear(at int) api.Fate {
	return api.Fate{Kind: api.FateTear, At: at}
}

// made answers a device over a disk of 4 sectors of 64 bytes, and that disk.
func made(t *testing.T) (*power.Device, *disk.Disk) {
	t.Helper()
	u, err := disk.New(4, 64)
	if err != api.OK {
		t.Fatal("no disk:", err)
	}
	d, err := power.New(u)
	if err != api.OK || d == nil {
		t.Fatal("no device:", err)
	}
	return d, u
}

func wantErr(t *testing.T, what string, err, want api.Errno) {
	t.Helper()
	if err != want {
		t.Errorf("%s: %d, want %d", what, err, want)
	}
}

func wantFound(t *testing.T, what string, d *power.Device, at int, want []byte) {
	t.Helper()
	if b, err := d.Read(at); err != api.OK || !bytes.Equal(b, want) {
		t.Errorf("%s: Read(%d): %q, %d, want %q", what, at, b, err, want)
	}
}

func wantRefused(t *testing.T, what string, d *power.Device, at int, want api.Errno) {
	t.Helper()
	if b, err := d.Read(at); err != want || len(b) != 0 {
		t.Errorf("%s: Read(%d): %q, %d, want %d", what, at, b, err, want)
	}
}

// wantState: whether it is down, how many operations were counted, how many writes wait.
func wantState(t *testing.T, what string, d *power.Device, down bool, count, waiting int) {
	t.Helper()
	if d.Down() != down || d.Count() != count || d.Waiting() != waiting {
		t.Errorf("%s: down %v, count %d, waiting %d; want %v, %d, %d",
			what, d.Down(), d.Count(), d.Waiting(), down, count, waiting)
	}
}

func wantImage(t *testing.T, what string, d *power.Device, want ...[]byte) {
	t.Helper()
	if image := d.Image(); !sameImage(image, want) {
		t.Errorf("%s: the image is %q, want %q", what, image, want)
	}
}

// P6.1 to P6.5: the chapter's examples, one behind the other.
func TestExamples(t *testing.T) {
	d, _ := made(t)
	wantErr(t, "Write(1, x)", d.Write(1, x), api.OK)
	wantFound(t, "first", d, 1, x)
	wantState(t, "first", d, false, 2, 1)
	wantRefused(t, "first", d, 4, api.ErrSector)
	wantState(t, "a read that the disk refuses", d, false, 3, 1)
	wantErr(t, "Write(0, nothing)", d.Write(0, nil), api.ErrLong)
	wantState(t, "a write that the disk refuses", d, false, 4, 1)

	wantErr(t, "Arm(1)", d.Arm(1), api.OK)
	wantErr(t, "Sync", d.Sync(), api.OK)
	wantErr(t, "Write(1, y)", d.Write(1, y), api.ErrDown)
	wantState(t, "second", d, true, 5, 0)
	wantRefused(t, "down", d, 1, api.ErrDown)
	wantRefused(t, "down", d, 9, api.ErrDown)
	wantErr(t, "Arm(5), down", d.Arm(5), api.ErrDown)
	wantState(t, "down", d, true, 5, 0)
	wantErr(t, "Restart(none)", d.Restart(nil), api.OK)
	wantState(t, "up again", d, false, 0, 0)
	wantFound(t, "up again", d, 1, x)

	wantErr(t, "Write(2, y)", d.Write(2, y), api.OK)
	wantErr(t, "Arm(0)", d.Arm(0), api.OK)
	wantErr(t, "Sync, armed with 0", d.Sync(), api.ErrDown)
	wantState(t, "third", d, true, 2, 1)
	wantErr(t, "Restart(torn at 10)", d.Restart([]api.Fate{tear(10)}), api.OK)
	wantFound(t, "torn", d, 2, slices.Concat(y[:10], o[10:]))

	wantErr(t, "Arm(0)", d.Arm(0), api.OK)
	wantErr(t, "Arm(-1)", d.Arm(-1), api.OK)
	wantFound(t, "fourth", d, 0, o)
}

// P6.1: a new device is up, not armed, of the count 0, with the disk as it is.
func TestNew(t *testing.T) {
	for what, u := range map[string]*disk.Disk{"nil": nil, "zero": {}} {
		if d, err := power.New(u); d != nil || err != api.ErrNil {
			t.Errorf("%s: %v, %d", what, d != nil, err)
		}
	}
	u, _ := disk.Of([][]byte{x, o})
	u.Write(1, y)
	d, err := power.New(u)
	wantErr(t, "New", err, api.OK)
	if d.Sectors() != 2 || d.Size() != 64 {
		t.Error("other sectors:", d.Sectors(), d.Size())
	}
	wantState(t, "new", d, false, 0, 1)
	wantImage(t, "new", d, x, o)
	for range 100 {
		wantFound(t, "new, not armed", d, 1, y)
	}
	wantState(t, "read often", d, false, 100, 1)

	for _, c := range [][2]int{{1, 64}, {1, 4096}, {65536, 64}, {16384, 4096}} {
		u, _ := disk.New(c[0], c[1])
		d, err := power.New(u)
		if err != api.OK || d.Sectors() != c[0] || d.Size() != c[1] {
			t.Errorf("over a disk of %v: %d, %d, %d", c, err, d.Sectors(), d.Size())
		}
	}
}

// P6.2, P6.7: each kind of operation, armed with n: n of them are done, and none behind them.
func TestArmedWith(t *testing.T) {
	kinds := map[string]func(d *power.Device) api.Errno{
		"Write": func(d *power.Device) api.Errno { return d.Write(3, y) },
		"Sync":  func(d *power.Device) api.Errno { return d.Sync() },
		"Read": func(d *power.Device) api.Errno {
			_, err := d.Read(3)
			return err
		},
	}
	for what, operate := range kinds {
		for n := range 5 {
			d, _ := made(t)
			d.Read(0)
			d.Arm(n)
			for range n {
				wantErr(t, what, operate(d), api.OK)
			}
			wantState(t, what+" as often as armed", d, false, n+1, d.Waiting())
			waiting := d.Waiting()
			for range 3 {
				wantErr(t, what+", the power goes", operate(d), api.ErrDown)
				wantState(t, what, d, true, n+1, waiting)
			}
			wantErr(t, "Restart", d.Restart(nil), api.OK)
			for range 7 { // armed no more
				wantErr(t, what+", up again", operate(d), api.OK)
			}
			if d.Count() != 7 {
				t.Error(what, "up again, count", d.Count())
			}
		}
	}
}

// P6.2: what the disk refuses is an operation too: counted, and one less ahead of the power's end.
func TestRefusedIsCounted(t *testing.T) {
	d, _ := made(t)
	d.Arm(4)
	wantErr(t, "Write(4)", d.Write(4, nil), api.ErrSector)
	wantErr(t, "Write far below", d.Write(math.MinInt, x), api.ErrSector)
	wantErr(t, "Write of 63", d.Write(0, x[:63]), api.ErrLong)
	wantRefused(t, "armed", d, math.MaxInt, api.ErrSector)
	wantState(t, "refused", d, false, 4, 0)
	wantErr(t, "Write(4), the power goes", d.Write(4, nil), api.ErrDown)
	wantState(t, "the power went", d, true, 4, 0)
	wantErr(t, "Write of 63, down", d.Write(0, x[:63]), api.ErrDown)
	wantRefused(t, "down", d, -1, api.ErrDown)
	wantImage(t, "down", d, o, o, o, o)
}

// P6.2, P6.7: the operation at which the power goes is not done, and none is while it is down.
func TestNothingDoneWhenDown(t *testing.T) {
	d, _ := made(t)
	d.Write(0, x)
	d.Sync()
	d.Write(0, y)
	d.Arm(0)
	wantErr(t, "the power goes", d.Write(1, y), api.ErrDown)
	wantErr(t, "Sync, down", d.Sync(), api.ErrDown)
	wantErr(t, "Write, down", d.Write(2, y), api.ErrDown)
	wantState(t, "down", d, true, 3, 1)
	wantImage(t, "down", d, x, o, o, o)
	if d.Sectors() != 4 || d.Size() != 64 {
		t.Error("down:", d.Sectors(), d.Size())
	}
	d.Restart([]api.Fate{keep, keep, keep})
	wantImage(t, "up again", d, y, o, o, o)
}

// P6.4: what Arm says last holds, whatever was ahead; asking is no operation.
func TestArm(t *testing.T) {
	tests := []struct {
		arms []int
		done int // of six reads
	}{
		{nil, 6}, {[]int{0}, 0}, {[]int{1}, 1}, {[]int{5}, 5}, {[]int{6}, 6}, {[]int{math.MaxInt}, 6},
		{[]int{-1}, 6}, {[]int{-2}, 6}, {[]int{math.MinInt}, 6},
		{[]int{0, -1}, 6}, {[]int{0, math.MinInt}, 6}, {[]int{0, 3}, 3}, {[]int{3, 0}, 0}, {[]int{-1, 2}, 2}, {[]int{4, 2}, 2},
	}
	for _, c := range tests {
		d, _ := made(t)
		for _, n := range c.arms {
			wantErr(t, "Arm", d.Arm(n), api.OK)
			for range 3 {
				d.Sectors()
				d.Size()
				d.Image()
				wantState(t, "armed", d, false, 0, 0)
			}
		}
		for i := range 6 {
			if i < c.done {
				wantFound(t, "armed", d, 0, o)
			} else {
				wantRefused(t, "armed", d, 0, api.ErrDown)
			}
		}
		wantState(t, "armed", d, c.done < 6, c.done, 0)
	}

	d, _ := made(t)
	d.Arm(2)
	d.Sync()
	d.Arm(2) // anew, not on from what is left
	wantErr(t, "armed anew", d.Sync(), api.OK)
	wantErr(t, "armed anew", d.Sync(), api.OK)
	wantErr(t, "armed anew", d.Sync(), api.ErrDown)
	for _, n := range []int{math.MinInt, -1, 0, 1, math.MaxInt} {
		wantErr(t, "Arm, down", d.Arm(n), api.ErrDown)
	}
	wantState(t, "armed when down", d, true, 3, 0)
	d.Restart(nil)
	wantErr(t, "what was refused says nothing", d.Sync(), api.OK)
}

// P6.5: a restart of a device that is up is a crash too, and ends what it was armed with.
func TestRestartWhenUp(t *testing.T) {
	d, _ := made(t)
	for _, n := range []int{-1, 0, 1, 2} {
		d.Write(1, x)
		d.Write(2, y)
		d.Arm(n)
		fates := []api.Fate{{Kind: api.FateLose}, tear(n + 3), keep}
		had := slices.Clone(fates)
		wantErr(t, "Restart", d.Restart(fates), api.OK)
		wantState(t, "up again", d, false, 0, 0)
		wantImage(t, "up again", d, o, o, slices.Concat(y[:n+3], o[n+3:]), o)
		if !slices.Equal(fates, had) {
			t.Error("fates are changed:", fates)
		}
		for range 4 {
			wantErr(t, "armed no more", d.Sync(), api.OK)
		}
		wantState(t, "armed no more", d, false, 4, 0)
	}
	d.Write(0, x)
	wantErr(t, "Restart without fates", d.Restart(nil), api.OK)
	wantFound(t, "lost", d, 0, o)
}

// P6.6, P6.1 to P6.5, R4: what is no device, one with a disk that New did not answer too.
func TestNone(t *testing.T) {
	u, _ := disk.Of([][]byte{x})
	u.Write(0, y)
	for what, d := range map[string]*power.Device{"nil": nil, "zero": {}, "of a disk": {Disk: u}} {
		for _, at := range []int{-1, 0, 1} {
			for _, b := range [][]byte{nil, x} {
				wantErr(t, what, d.Write(at, b), api.ErrNil)
			}
			wantRefused(t, what, d, at, api.ErrNil)
			wantErr(t, what, d.Arm(at), api.ErrNil)
		}
		wantErr(t, what, d.Sync(), api.ErrNil)
		wantErr(t, what, d.Restart(nil), api.ErrNil)
		wantErr(t, what, d.Restart([]api.Fate{keep}), api.ErrNil)
		wantState(t, what, d, false, 0, 0)
		if d.Sectors() != 0 || d.Size() != 0 || len(d.Image()) != 0 || d.Copy() != nil {
			t.Error(what, "has something")
		}
	}
	if u.Waiting() != 1 {
		t.Error("a disk is changed by what is no device")
	}
}

// R5: a device uses its disk; what the disk itself is asked is no operation.
func TestUsesItsDisk(t *testing.T) {
	d, u := made(t)
	d.Arm(1)
	u.Write(0, x)
	u.Read(0)
	wantState(t, "the disk is written", d, false, 0, 1)
	wantFound(t, "the disk is written", d, 0, x)
	u.Sync()
	wantImage(t, "the disk is synced", d, x, o, o, o)

	wantErr(t, "the power goes", d.Sync(), api.ErrDown)
	wantErr(t, "the disk itself", u.Write(1, y), api.OK)
	wantState(t, "down, the disk is written", d, true, 1, 1)
	u.Crash([]api.Fate{keep})
	wantState(t, "down, the disk crashed", d, true, 1, 0)
	wantImage(t, "down, the disk crashed", d, x, y, o, o)

	d.Restart(nil)
	d.Write(2, y)
	if b, err := u.Read(2); err != api.OK || !bytes.Equal(b, y) || u.Waiting() != 1 {
		t.Error("what the device writes does not show in its disk:", err, u.Waiting())
	}
	d.Restart([]api.Fate{tear(1)})
	if image := u.Image(); u.Waiting() != 0 || image[2][0] != 'y' || image[2][1] != 0 {
		t.Error("a restart does not show in the disk:", u.Waiting(), image[2])
	}

	// two devices over one disk: each with a power and a count of its own
	e, _ := power.New(u)
	d.Arm(0)
	wantErr(t, "the first one", d.Sync(), api.ErrDown)
	wantErr(t, "the second one", e.Write(3, x), api.OK)
	wantState(t, "the first one", d, true, 0, 1)
	wantState(t, "the second one", e, false, 1, 1)
}

// P6.1, R5: a copy is as its device is, and they know nothing of one another.
func TestCopy(t *testing.T) {
	d, u := made(t)
	d.Write(0, x)
	d.Sync()
	d.Write(1, y)
	d.Arm(1)
	c := d.Copy()
	wantState(t, "the copy", c, false, 3, 1)
	wantFound(t, "the copy", c, 1, y)
	wantErr(t, "the copy is armed", c.Write(1, x), api.ErrDown)
	wantState(t, "the copy", c, true, 4, 1)
	wantState(t, "the device", d, false, 3, 1)
	u.Write(3, x)
	wantImage(t, "the copy", c, x, o, o, o)

	down := c.Copy()
	wantState(t, "a copy of one that is down", down, true, 4, 1)
	wantErr(t, "a copy of one that is down", down.Sync(), api.ErrDown)
	c.Restart([]api.Fate{keep})
	wantState(t, "the copy is up again", c, false, 0, 0)
	wantState(t, "a copy of one that is down", down, true, 4, 1)
	wantImage(t, "the copy is up again", c, x, y, o, o)
	wantImage(t, "a copy of one that is down", down, x, o, o, o)

	wantErr(t, "the device", d.Write(2, y), api.OK)
	wantErr(t, "the device", d.Sync(), api.ErrDown)
	wantState(t, "the device", d, true, 4, 3)
	c.Arm(0)
	wantState(t, "the copy of a copy", c.Copy(), false, 0, 0)
	wantErr(t, "the copy of a copy", c.Copy().Sync(), api.ErrDown)
	wantErr(t, "not armed by what copies did", d.Restart(nil), api.OK)
	wantErr(t, "not armed by what copies did", d.Sync(), api.OK)
}

// R3: what is handed in is not kept, and what is answered is new memory.
func TestNothingShared(t *testing.T) {
	d, _ := made(t)
	b := slices.Clone(x)
	d.Write(0, b)
	b[0] = 'z'
	for range 2 {
		out, _ := d.Read(0)
		if !bytes.Equal(out, x) {
			t.Errorf("what was written or answered is kept: %q", out)
		}
		clear(out)
		clear(d.Image()[1])
		out, _ = d.Read(1)
		out[5] = 'z'
		wantImage(t, "answers are changed", d, o, o, o, o)
	}
}

// R7: calls on devices that share nothing may be made at one time.
func TestAtOneTime(t *testing.T) {
	first, _ := made(t)
	first.Write(3, x)
	var wait sync.WaitGroup
	for k := range 8 {
		c := first.Copy()
		wait.Go(func() {
			c.Arm(50 + k)
			for range 100 {
				c.Write(k%3, y)
			}
			wantState(t, "at one time with others", c, true, 51+k, 51+k)
			c.Restart([]api.Fate{keep})
			wantFound(t, "at one time with others", c, 3, x)
		})
	}
	wait.Wait()
	wantState(t, "the first one", first, false, 1, 1)
}

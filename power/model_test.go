package power_test

import (
	"bytes"
	"testing"

	"gangway/api"
	"gangway/disk"
	"gangway/power"
)

// model is a device as the chapter's words say it, over a disk of its own.
type model struct {
	disk  *disk.Disk
	down  bool
	armed bool
	with  int
	count int
}

// makes lets an operation be made: it is done on the disk, or refused.
func (m *model) makes(operation func(u *disk.Disk) ([]byte, api.Errno)) ([]byte, api.Errno) {
	if m.down {
		return nil, api.ErrDown
	}
	if m.armed && m.with == 0 {
		m.down, m.armed = true, false
		return nil, api.ErrDown
	}
	if m.armed {
		m.with--
	}
	m.count++
	return operation(m.disk)
}

func (m *model) arm(n int) api.Errno {
	if m.down {
		return api.ErrDown
	}
	m.armed, m.with = n >= 0, n
	return api.OK
}

func (m *model) restart(fates []api.Fate) {
	m.disk.Crash(fates)
	m.down, m.armed, m.count = false, false, 0
}

func (m *model) copy() *model {
	c := *m
	c.disk = m.disk.Copy()
	return &c
}

// step is an operation, as it is made on a device and on a disk.
type step struct {
	device func(d *power.Device) ([]byte, api.Errno)
	disk   func(u *disk.Disk) ([]byte, api.Errno)
}

// someStep answers an operation of any kind, some of which the disk refuses.
func someStep(chance func(int) int) step {
	at, b := chance(6)-1, bytes.Repeat([]byte{byte(chance(256))}, 64-chance(8)/7)
	switch chance(5) {
	case 0:
		return step{
			func(d *power.Device) ([]byte, api.Errno) { return nil, d.Sync() },
			func(u *disk.Disk) ([]byte, api.Errno) { return nil, u.Sync() },
		}
	case 1, 2:
		return step{
			func(d *power.Device) ([]byte, api.Errno) { return d.Read(at) },
			func(u *disk.Disk) ([]byte, api.Errno) { return u.Read(at) },
		}
	default:
		return step{
			func(d *power.Device) ([]byte, api.Errno) { return nil, d.Write(at, b) },
			func(u *disk.Disk) ([]byte, api.Errno) { return nil, u.Write(at, b) },
		}
	}
}

func someFates(chance func(int) int, count int) []api.Fate {
	var l []api.Fate
	for range count {
		l = append(l, api.Fate{Kind: api.FateKind(chance(5) - 1), At: chance(70) - 3})
	}
	return l
}

// numbers answers a function that tells numbers below a bound, the same ones for one seed.
func numbers(seed uint64) func(below int) int {
	n := seed
	return func(below int) int {
		n = n*6364136223846793005 + 1442695040888963407
		return int(n >> 33 % uint64(below))
	}
}

func sameImage(a, b [][]byte) bool {
	if len(a) != len(b) {
		return false
	}
	for i := range a {
		if !bytes.Equal(a[i], b[i]) {
			return false
		}
	}
	return true
}

// wantAs: the device answers all questions as the model does, and a copy finds what the model has.
func wantAs(t *testing.T, d *power.Device, m *model) {
	t.Helper()
	if d.Sectors() != m.disk.Sectors() || d.Size() != m.disk.Size() || !sameImage(d.Image(), m.disk.Image()) {
		t.Fatalf("other sectors: %d of %d bytes, %q", d.Sectors(), d.Size(), d.Image())
	}
	if d.Down() != m.down || d.Count() != m.count || d.Waiting() != m.disk.Waiting() {
		t.Fatalf("down %v, count %d, waiting %d; want %v, %d, %d",
			d.Down(), d.Count(), d.Waiting(), m.down, m.count, m.disk.Waiting())
	}
	c := d.Copy()
	c.Restart(allKept(c.Waiting()))
	for at := range m.disk.Sectors() {
		b, _ := c.Read(at)
		if want, _ := m.disk.Read(at); !bytes.Equal(b, want) {
			t.Fatalf("found at %d: %q, want %q", at, b, want)
		}
	}
}

func allKept(count int) []api.Fate {
	l := make([]api.Fate, count)
	for i := range l {
		l[i].Kind = api.FateKeep
	}
	return l
}

// P6.1 to P6.5: devices that are used, armed, cut off and copied, each step as the model.
func TestAsModel(t *testing.T) {
	for seed := range 100 {
		chance := numbers(uint64(seed))
		d, u := made(t)
		m := &model{disk: u.Copy()}
		for range 80 {
			switch what := chance(20); {
			case what < 15:
				s := someStep(chance)
				b, err := s.device(d)
				want, wantErr := m.makes(s.disk)
				if err != wantErr || !bytes.Equal(b, want) {
					t.Fatalf("an operation: %q, %d, want %q, %d", b, err, want, wantErr)
				}
			case what < 17:
				n := chance(9) - 2
				if err, want := d.Arm(n), m.arm(n); err != want {
					t.Fatalf("Arm(%d): %d, want %d", n, err, want)
				}
			case what < 19:
				fates := someFates(chance, chance(6))
				if err := d.Restart(fates); err != api.OK {
					t.Fatal("a restart is refused:", err)
				}
				m.restart(fates)
			default:
				first := d
				d, m = d.Copy(), m.copy()
				first.Restart(nil)
				first.Write(0, x)
				first.Sync()
			}
			wantAs(t, d, m)
		}
	}
}

// P6.7: armed with n, the first n operations are those of the disk itself, and none behind them;
// behind a restart the disk is as if these alone had been made, and it had crashed with these fates.
func TestWhatFollows(t *testing.T) {
	for seed := range 60 {
		chance := numbers(uint64(seed) + 1000)
		first, _ := made(t)
		var steps []step
		for range chance(12) {
			steps = append(steps, someStep(chance))
		}
		for n := range len(steps) + 2 {
			d := first.Copy()
			_, u := made(t)
			d.Arm(n)
			for i, s := range steps {
				b, err := s.device(d)
				if i >= n {
					if err != api.ErrDown || len(b) != 0 || !d.Down() {
						t.Fatalf("armed with %d, operation %d: %q, %d", n, i, b, err)
					}
				} else if want, wantErr := s.disk(u); err != wantErr || !bytes.Equal(b, want) {
					t.Fatalf("armed with %d, operation %d: %q, %d, want %q, %d", n, i, b, err, want, wantErr)
				}
			}
			if d.Down() != (n < len(steps)) || d.Count() != min(n, len(steps)) {
				t.Fatalf("armed with %d, %d operations: down %v, count %d", n, len(steps), d.Down(), d.Count())
			}
			fates := someFates(chance, chance(8))
			d.Restart(fates)
			u.Crash(fates)
			wantAs(t, d, &model{disk: u})
		}
	}
}

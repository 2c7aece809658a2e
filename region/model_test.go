package region_test

import (
	"bytes"
	"testing"

	"gangway/api"
	"gangway/disk"
	"gangway/power"
	"gangway/region"
)

// model is a region as the chapter's words say it: each sector is asked which of its bytes are meant.
type model struct {
	device *power.Device
	span   api.Span
}

// meant tells for each byte of the region's sector number k which of the n bytes from at on it is,
// and how many of them are meant.
func (m model) meant(k, at, n int) (map[int]int, int) {
	places := map[int]int{}
	for i := range m.device.Size() {
		if place := k*m.device.Size() + i; place >= at && place < at+n {
			places[i] = place - at
		}
	}
	return places, len(places)
}

func (m model) may(at, n int) bool {
	return at >= 0 && n >= 0 && at+n <= m.span.Count*m.device.Size()
}

func (m model) read(at, n int) ([]byte, api.Errno) {
	if !m.may(at, n) {
		return nil, api.ErrArg
	}
	var out []byte
	for k := range m.span.Count {
		places, count := m.meant(k, at, n)
		if count == 0 {
			continue
		}
		b, err := m.device.Read(m.span.From + k)
		if err != api.OK {
			return nil, err
		}
		for i := range b {
			if _, is := places[i]; is {
				out = append(out, b[i])
			}
		}
	}
	return out, api.OK
}

func (m model) write(at int, b []byte) api.Errno {
	if !m.may(at, len(b)) {
		return api.ErrArg
	}
	for k := range m.span.Count {
		places, count := m.meant(k, at, len(b))
		if count == 0 {
			continue
		}
		sector := make([]byte, m.device.Size())
		if count < len(sector) {
			had, err := m.device.Read(m.span.From + k)
			if err != api.OK {
				return err
			}
			sector = had
		}
		for i, place := range places {
			sector[i] = b[place]
		}
		if err := m.device.Write(m.span.From+k, sector); err != api.OK {
			return err
		}
	}
	return api.OK
}

// numbers answers a function that tells numbers below a bound, the same ones for one seed.
func numbers(seed uint64) func(below int) int {
	n := seed
	return func(below int) int {
		n = n*6364136223846793005 + 1442695040888963407
		return int(n >> 33 % uint64(below))
	}
}

func someBytes(chance func(int) int, count int) []byte {
	b := make([]byte, count)
	for i := range b {
		b[i] = byte(chance(256))
	}
	return b
}

// someDevice answers a device whose durable bytes are any.
func someDevice(t *testing.T, chance func(int) int, sectors, size int) *power.Device {
	t.Helper()
	var image [][]byte
	for range sectors {
		image = append(image, someBytes(chance, size))
	}
	u, err := disk.Of(image)
	if err != api.OK {
		t.Fatal("no disk:", err)
	}
	d, err := power.New(u)
	if err != api.OK {
		t.Fatal("no device:", err)
	}
	return d
}

// someFates answers as many fates as there are writes that wait, or nearly.
func someFates(chance func(int) int, waiting, size int) []api.Fate {
	var l []api.Fate
	for range waiting - chance(2) {
		l = append(l, api.Fate{Kind: api.FateKind(chance(3)), At: chance(size + 1)})
	}
	return l
}

// wantSame: two devices are in one state, down to what each write that waits would leave.
func wantSame(t *testing.T, d, want *power.Device) {
	t.Helper()
	if d.Down() != want.Down() || d.Count() != want.Count() || d.Waiting() != want.Waiting() {
		t.Fatalf("down %v, count %d, waiting %d; want %v, %d, %d",
			d.Down(), d.Count(), d.Waiting(), want.Down(), want.Count(), want.Waiting())
	}
	wantSameImage(t, "durable", d, want)
	for kept := range d.Waiting() { // one write alone is kept: so their order and their bytes are the same
		fates := make([]api.Fate, kept+1)
		fates[kept].Kind = api.FateKeep
		a, b := d.Copy(), want.Copy()
		a.Restart(fates)
		b.Restart(fates)
		wantSameImage(t, "one write kept", a, b)
	}
}

func wantSameImage(t *testing.T, what string, d, want *power.Device) {
	t.Helper()
	a, b := d.Image(), want.Image()
	if len(a) != len(b) {
		t.Fatalf("%s: %d sectors, want %d", what, len(a), len(b))
	}
	for at := range a {
		if !bytes.Equal(a[at], b[at]) {
			t.Fatalf("%s: the sector %d is %v, want %v", what, at, a[at], b[at])
		}
	}
}

// P7.3, P7.4, P7.5: two regions of a device that is armed and cut off, each step as the models of a
// device of their own.
func TestAsModel(t *testing.T) {
	for seed := range 80 {
		chance := numbers(uint64(seed))
		size, sectors := 64<<chance(2), 2+chance(5)
		d := someDevice(t, chance, sectors, size)
		twin := d.Copy()
		var regions []*region.Region
		var models []model
		for range 2 {
			from := chance(sectors)
			s := api.Span{From: from, Count: 1 + chance(sectors-from)}
			r, err := region.New(d, s)
			if err != api.OK {
				t.Fatalf("no region of %v of %d: %d", s, sectors, err)
			}
			regions, models = append(regions, r), append(models, model{twin, s})
		}
		for range 40 {
			k := chance(2)
			r, m := regions[k], models[k]
			at, n := chance(r.Bytes()+3)-1, chance(min(r.Bytes()+4, 3*size))-1
			switch what := chance(12); {
			case what < 4:
				b, err := r.Read(at, n)
				if want, wantErr := m.read(at, n); err != wantErr || !bytes.Equal(b, want) {
					t.Fatalf("Read(%d, %d) of %v: %v, %d, want %v, %d", at, n, m.span, b, err, want, wantErr)
				}
			case what < 8:
				b := someBytes(chance, max(n, 0))
				if err, want := r.Write(at, b), m.write(at, b); err != want {
					t.Fatalf("Write(%d, %d bytes) of %v: %d, want %d", at, len(b), m.span, err, want)
				}
			case what < 9:
				if err, want := r.Sync(), twin.Sync(); err != want {
					t.Fatalf("Sync: %d, want %d", err, want)
				}
			case what < 11:
				n := chance(8) - 1
				d.Arm(n)
				twin.Arm(n)
			default:
				fates := someFates(chance, d.Waiting(), size)
				d.Restart(fates)
				twin.Restart(fates)
			}
			wantSame(t, d, twin)
			if r.Count() != twin.Count() || r.Down() != twin.Down() {
				t.Fatalf("count %d, down %v; want %d, %v", r.Count(), r.Down(), twin.Count(), twin.Down())
			}
		}
	}
}

// P7.6: what was written is read as it was, other bytes stay, those outside of the region too, and
// neither makes more operations than told; at all places and lengths of a small region.
func TestWhatFollows(t *testing.T) {
	chance := numbers(7)
	const size, from, count = 64, 1, 3
	first := someDevice(t, chance, 5, size)
	all := bytes.Join(first.Image(), nil)
	for at := range count*size + 1 {
		for n := range count*size - at + 1 {
			if n > 3 && at%size > 3 && at%size < size-3 && n%size > 3 && n%size < size-3 {
				continue // far from every border
			}
			d := first.Copy()
			r, err := region.New(d, api.Span{From: from, Count: count})
			wantErr(t, "New", err, api.OK)
			b := someBytes(chance, n)
			wantErr(t, "Write", r.Write(at, b), api.OK)
			if d.Count() > n/size+4 {
				t.Fatalf("Write(%d, %d bytes): %d operations", at, n, d.Count())
			}
			was := d.Count()
			wantRead(t, r, at, b)
			if d.Count()-was > n/size+2 {
				t.Fatalf("Read(%d, %d): %d operations", at, n, d.Count()-was)
			}
			want := bytes.Clone(all)
			copy(want[from*size+at:], b)
			wantErr(t, "Sync", r.Sync(), api.OK)
			if got := bytes.Join(d.Image(), nil); !bytes.Equal(got, want) {
				t.Fatalf("Write(%d, %d bytes): the device has %v, want %v", at, n, got, want)
			}
		}
	}
}

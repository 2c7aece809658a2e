package slots_test

import (
	"bytes"
	"math"
	"slices"
	"testing"

	"gangway/api"
	"gangway/crc"
	"gangway/disk"
	"gangway/power"
	"gangway/region"
	"gangway/slots"
)

// model is slots as the chapter's words say them.
type model struct {
	a, b *region.Region
}

func (m model) room() int {
	return m.a.Bytes() - m.a.Size()
}

// said answers the header of a header sector's bytes, if there is one whose body the room could have.
func (m model) said(b []byte) (api.Header, bool) {
	number := func(from, count int) uint64 {
		n := uint64(0)
		for i := range count {
			n |= uint64(b[from+i]) << (8 * i)
		}
		return n
	}
	if string(b[:4]) != "GANG" || number(28, 4) != uint64(crc.Sum(b[:28])) {
		return api.Header{}, false
	}
	if number(4, 8) == 0 || number(20, 4) > 1<<26 || number(20, 4) > uint64(m.room()) {
		return api.Header{}, false
	}
	return api.Header{Generation: number(4, 8), Covered: number(12, 8), Length: int(number(20, 4)), Sum: uint32(number(24, 4))}, true
}

// holds answers a slot's body, and whether it holds one.
func (m model) holds(r *region.Region, h api.Header) ([]byte, bool, api.Errno) {
	var b []byte
	if h.Length > 0 {
		var err api.Errno
		if b, err = r.Read(r.Size(), h.Length); err != api.OK {
			return nil, false, err
		}
	}
	return b, crc.Sum(b) == h.Sum, api.OK
}

func (m model) load() (api.Header, []byte, int, api.Errno) {
	inA, err := m.a.Read(0, m.a.Size())
	if err != api.OK {
		return api.Header{}, nil, 0, err
	}
	inB, err := m.b.Read(0, m.b.Size())
	if err != api.OK {
		return api.Header{}, nil, 0, err
	}
	ofA, hasA := m.said(inA)
	ofB, hasB := m.said(inB)
	turns := []int{0, 1}
	if hasA && hasB && ofB.Generation > ofA.Generation {
		turns = []int{1, 0}
	}
	for _, k := range turns {
		h, has, r := ofA, hasA, m.a
		if k == 1 {
			h, has, r = ofB, hasB, m.b
		}
		if !has {
			continue
		}
		if b, holds, err := m.holds(r, h); err != api.OK {
			return api.Header{}, nil, 0, err
		} else if holds {
			return h, b, k, api.OK
		}
	}
	return api.Header{}, nil, -1, api.OK
}

func (m model) save(body []byte, covered uint64) (api.Header, api.Errno) {
	if len(body) > m.room() {
		return api.Header{}, api.ErrLong
	}
	found, _, at, err := m.load()
	if err != api.OK {
		return api.Header{}, err
	}
	if found.Generation == math.MaxUint64 {
		return api.Header{}, api.ErrFull
	}
	to := m.a
	if at == 0 {
		to = m.b
	}
	h := api.Header{Generation: found.Generation + 1, Covered: covered, Length: len(body), Sum: crc.Sum(body)}
	sector := make([]byte, to.Size())
	copy(sector, headBytes(h))
	if err := to.Write(to.Size(), body); err != api.OK {
		return api.Header{}, err
	}
	if err := to.Sync(); err != api.OK {
		return api.Header{}, err
	}
	if err := to.Write(0, sector); err != api.OK {
		return api.Header{}, err
	}
	if err := to.Sync(); err != api.OK {
		return api.Header{}, err
	}
	return h, api.OK
}

// headBytes answers a header's bytes, whether it may be or not.
func headBytes(h api.Header) []byte {
	b := []byte("GANG")
	number := func(n uint64, count int) {
		for range count {
			b = append(b, byte(n))
			n >>= 8
		}
	}
	number(h.Generation, 8)
	number(h.Covered, 8)
	number(uint64(h.Length), 4)
	number(uint64(h.Sum), 4)
	number(uint64(crc.Sum(b)), 4)
	return b
}

// numbers answers a function that tells numbers below a bound, the same ones for one seed.
func numbers(seed uint64) func(below int) int {
	n := seed
	return func(below int) int {
		n = n*6364136223846793005 + 1442695040888963407
		return int(n >> 33 % uint64(below))
	}
}

func someBytes(chance func(int) int, count int) []byte {
	b := make([]byte, count)
	for i := range b {
		b[i] = byte(chance(256))
	}
	return b
}

// someDevice answers a device whose durable bytes are any.
func someDevice(t *testing.T, chance func(int) int, sectors, size int) *power.Device {
	t.Helper()
	var image [][]byte
	for range sectors {
		image = append(image, someBytes(chance, size))
	}
	u, err := disk.Of(image)
	if err != api.OK {
		t.Fatal("no disk:", err)
	}
	d, err := power.New(u)
	if err != api.OK {
		t.Fatal("no device:", err)
	}
	return d
}

// someFates answers as many fates as there are writes that wait, or nearly.
func someFates(chance func(int) int, waiting, size int) []api.Fate {
	var l []api.Fate
	for range waiting - chance(2) {
		l = append(l, api.Fate{Kind: api.FateKind(chance(3)), At: chance(size + 1)})
	}
	return l
}

// someSector answers a header sector, of any header, near what may be, for a slot with that room.
func someSector(chance func(int) int, room []byte, size int) []byte {
	h := api.Header{Generation: uint64(chance(6)), Covered: uint64(chance(9)), Length: chance(len(room)+2) * chance(2)}
	switch chance(4) {
	case 0:
		h.Generation -= 3
	case 1:
		h.Length = 1<<26 + chance(3) - 1
	case 2:
		h.Sum = crc.Sum(room[:min(h.Length, len(room))])
	}
	return append(headBytes(h), someBytes(chance, size-32)...)
}

// wantSame: two devices are in one state, down to what each write that waits would leave.
func wantSame(t *testing.T, d, want *power.Device) {
	t.Helper()
	if d.Down() != want.Down() || d.Count() != want.Count() || d.Waiting() != want.Waiting() {
		t.Fatalf("down %v, count %d, waiting %d; want %v, %d, %d",
			d.Down(), d.Count(), d.Waiting(), want.Down(), want.Count(), want.Waiting())
	}
	wantSameImage(t, "durable", d, want)
	for kept := range d.Waiting() { // one write alone is kept: so their order and their bytes are the same
		fates := make([]api.Fate, kept+1)
		fates[kept].Kind = api.FateKeep
		a, b := d.Copy(), want.Copy()
		a.Restart(fates)
		b.Restart(fates)
		wantSameImage(t, "one write kept", a, b)
	}
}

func wantSameImage(t *testing.T, what string, d, want *power.Device) {
	t.Helper()
	if a, b := d.Image(), want.Image(); !slices.EqualFunc(a, b, bytes.Equal) {
		t.Fatalf("%s: the image is %v, want %v", what, a, b)
	}
}

// step does one thing to the slots and the model alike, and holds their answers against each other.
func step(t *testing.T, chance func(int) int, s *slots.Slots, m model) {
	t.Helper()
	if chance(2) == 0 {
		h, b, at, err := s.Load()
		wantH, wantB, wantAt, wantErr := m.load()
		if h != wantH || !bytes.Equal(b, wantB) || at != wantAt || err != wantErr {
			t.Fatalf("Load: %v, %v, %d, %d, want %v, %v, %d, %d", h, b, at, err, wantH, wantB, wantAt, wantErr)
		}
		return
	}
	body, covered := someBytes(chance, chance(m.room()+3)), uint64(chance(9))-4
	if chance(4) == 0 {
		body = nil
	}
	h, err := s.Save(body, covered)
	if want, wantErr := m.save(body, covered); h != want || err != wantErr {
		t.Fatalf("Save of %d bytes: %v, %d, want %v, %d", len(body), h, err, want, wantErr)
	}
}

// P11.1, P11.3, P11.4: slots over a device that is armed, cut off, crashes with any fates, and into which
// others write headers and bytes of any kind, step by step as the model over a device of its own; the
// regions may have sectors in common.
func TestAsModel(t *testing.T) {
	for seed := range 200 {
		chance := numbers(uint64(seed))
		size, count := 64<<chance(2), 2+chance(3)
		d := someDevice(t, chance, 2*count+1, size)
		twin := d.Copy()
		from := []int{chance(2), count + chance(2)}
		if chance(4) == 0 {
			from[1] = chance(count + 2)
		}
		a, b := of(t, d, from[0], count), of(t, d, from[1], count)
		s, m := slotsOf(t, a, b), model{of(t, twin, from[0], count), of(t, twin, from[1], count)}
		for range 40 {
			switch chance(8) {
			case 0:
				n := chance(12) - 1
				d.Arm(n)
				twin.Arm(n)
			case 1:
				fates := someFates(chance, d.Waiting(), size)
				d.Restart(fates)
				twin.Restart(fates)
			case 2:
				r, of := a, m.a
				if chance(2) == 0 {
					r, of = b, m.b
				}
				room, _ := r.Read(size, r.Bytes()-size)
				of.Read(size, r.Bytes()-size)
				sector := someSector(chance, room, size)
				wantErr(t, "Write by others", r.Write(0, sector), of.Write(0, sector))
			default:
				step(t, chance, s, m)
			}
			wantSame(t, d, twin)
		}
	}
}

// allFates hands on every row of so many fates, torn ones at some places.
func allFates(count, size int, do func([]api.Fate)) {
	kinds := []api.Fate{{Kind: api.FateLose}, {Kind: api.FateKeep}}
	for _, at := range []int{1, 13, 31, 32, size - 1} {
		kinds = append(kinds, api.Fate{Kind: api.FateTear, At: at})
	}
	row := make([]api.Fate, count)
	var from func(int)
	from = func(k int) {
		if k == count {
			do(row)
			return
		}
		for _, f := range kinds {
			row[k] = f
			from(k + 1)
		}
	}
	from(0)
}

// wantFound: Load finds just that.
func wantFound(t *testing.T, what string, s *slots.Slots, want api.Header, body []byte, at int) {
	t.Helper()
	if h, b, k, err := s.Load(); h != want || !bytes.Equal(b, body) || k != at || err != api.OK {
		t.Fatalf("%s: Load: %v, %q, %d, %d, want %v, %q, %d", what, h, b, k, err, want, body, at)
	}
}

// P11.5: a Save that is cut off at each of its operations, with each fate of what waits: Load finds what
// it found ahead of it, or what was saved, the latter only where the last sync was reached; nothing but
// the slot that is saved to is written; and the next Save is found whatever lies there.
func TestEveryCut(t *testing.T) {
	first := someDevice(t, numbers(5), 8, 64)
	for saves := range 4 { // none is found; a; b; a again
		ready := first.Copy()
		start := func(d *power.Device) *slots.Slots { return slotsOf(t, of(t, d, 1, 3), of(t, d, 4, 3)) }
		s := start(ready)
		for k := range saves {
			if _, err := s.Save(bytes.Repeat([]byte{byte(k + 1)}, 50+10*k), uint64(k)); err != api.OK {
				t.Fatal("Save:", err)
			}
		}
		was, wasBody, wasAt, _ := s.Load()
		body := []byte("a body that is long enough to take more than one of the sectors, if only just so")
		whole := ready.Copy()
		count := whole.Count()
		saved, err := start(whole).Save(body, 77)
		wantErr(t, "Save", err, api.OK)
		operations, to := whole.Count()-count, (wasAt+1)%2
		wantFound(t, "saved", start(whole), saved, body, to)
		whole.Restart(nil)
		wantFound(t, "saved, behind a crash", start(whole), saved, body, to)
		for n := range operations {
			cut := ready.Copy()
			cut.Arm(n)
			if h, err := start(cut).Save(body, 77); h != (api.Header{}) || err != api.ErrDown {
				t.Fatalf("cut off at %d: %v, %d", n, h, err)
			}
			allFates(cut.Waiting(), 64, func(fates []api.Fate) {
				d := cut.Copy()
				d.Restart(fates)
				wantOthersKept(t, d, ready, 1+3*to)
				if h, b, at, err := start(d).Load(); n == operations-1 && h == saved {
					wantFound(t, "the last sync was reached", start(d), saved, body, to)
				} else if h != was || !bytes.Equal(b, wasBody) || at != wasAt || err != api.OK {
					t.Fatalf("cut off at %d, %v: %v, %q, %d, %d, want %v, %q, %d", n, fates, h, b, at, err, was, wasBody, wasAt)
				}
				h, err := start(d).Save([]byte("next"), 78)
				wantErr(t, "the next Save", err, api.OK)
				d.Restart(nil)
				if g, b, _, err := start(d).Load(); g != h || string(b) != "next" || err != api.OK {
					t.Fatalf("cut off at %d, %v: the next one: %v, %q, %d, want %v", n, fates, g, b, err, h)
				}
			})
		}
	}
}

// wantOthersKept: outside of the three sectors from that one on a device has what it had.
func wantOthersKept(t *testing.T, d, was *power.Device, from int) {
	t.Helper()
	a, b := d.Image(), was.Image()
	for k := range a {
		if (k < from || k >= from+3) && !bytes.Equal(a[k], b[k]) {
			t.Fatalf("the sector %d is written", k)
		}
	}
}

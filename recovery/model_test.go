package recovery_test

import (
	"bytes"
	"maps"
	"math"
	"slices"
	"testing"

	"gangway/api"
	"gangway/book"
	"gangway/cases"
	"gangway/crc"
	"gangway/disk"
	"gangway/engine"
	"gangway/frame"
	"gangway/image"
	"gangway/power"
	"gangway/records"
	"gangway/recovery"
	"gangway/replay"
	"gangway/requests"
	"gangway/slots"
)

// operation is what is done with a sector: it is written, if there are bytes, else read; below 0 all are synced.
type operation struct {
	sector int
	bytes  []byte
}

// model is what the chapter's words make of a device's sectors, worked out of their bytes alone.
type model struct {
	size    int
	slot    int // sectors of a slot
	sectors [][]byte
	shape   api.Shape

	found api.Found
	book  *book.Book
	look  api.Errno // of Look, and of the steps that Open makes as well
	open  api.Errno
	looks int // how many operations Look makes, of those of Open
	all   []operation
}

func modelOf(t *testing.T, d *power.Device, s api.Shape) *model {
	t.Helper()
	most := 20 + 14*min(s.Seats, s.Codes)
	m := &model{size: d.Size(), slot: 1 + (most+d.Size()-1)/d.Size(), shape: s}
	up := d.Copy()
	up.Arm(-1)
	for at := range d.Sectors() {
		b, err := up.Read(at)
		wantErr(t, "Read", err, api.OK)
		m.sectors = append(m.sectors, b)
	}
	m.run()
	return m
}

func (m *model) run() {
	generation, covered, body, at := m.load()
	m.found = api.Found{Generation: generation, Covered: covered}
	if at < 0 {
		m.book, _ = book.New(m.shape)
	} else {
		var err api.Errno
		if m.book, err = image.Get(m.shape, body); err != api.OK {
			m.look, m.open, m.looks = api.ErrImage, api.ErrImage, len(m.all)
			return
		}
	}
	m.scan()
	m.looks = len(m.all)
	_, _, _, at = m.load()
	if generation == math.MaxUint64 {
		m.open = api.ErrFull
		return
	}
	m.save(1-max(at, 0), at)
}

// load answers the newest whole checkpoint, and in which slot it is, -1, if there is none.
func (m *model) load() (generation, covered uint64, body []byte, at int) {
	m.all = append(m.all, operation{sector: 0}, operation{sector: m.slot})
	var heads [2]api.Header
	turns := []int{0, 1}
	for k := range heads {
		h, err := slots.Read(m.sectors[k*m.slot])
		if err == api.OK && h.Length <= (m.slot-1)*m.size {
			heads[k] = h
		}
	}
	if heads[1].Generation > heads[0].Generation {
		turns = []int{1, 0}
	}
	for _, k := range turns {
		h := heads[k]
		if h.Generation == 0 {
			continue
		}
		for i := 0; i*m.size < h.Length; i++ {
			m.all = append(m.all, operation{sector: k*m.slot + 1 + i})
		}
		b := bytes.Join(m.sectors[k*m.slot+1:(k+1)*m.slot], nil)[:h.Length]
		if crc.Sum(b) == h.Sum {
			return h.Generation, h.Covered, b, k
		}
	}
	return 0, 0, nil, -1
}

// scan applies the frames that count.
func (m *model) scan() {
	for at := 2 * m.slot; at < len(m.sectors); at++ {
		m.all = append(m.all, operation{sector: at})
	}
	log := bytes.Join(m.sectors[2*m.slot:], nil)
	for {
		f, size, err := frame.Get(log)
		last := m.found.Covered + uint64(m.found.Frames)
		if err != api.OK || f.Epoch != m.found.Generation || last == math.MaxUint64 || f.Seq != last+1 {
			return
		}
		r, err := records.Get(f.Body)
		if err != api.OK || m.book.Apply(r) != api.OK {
			return
		}
		m.found.Frames++
		log = log[size:]
	}
}

// save writes the book to the slot to, A where the slots hold nothing.
func (m *model) save(to, at int) {
	if at < 0 {
		to = 0
	}
	body, _ := image.Put(m.book)
	h := api.Header{Generation: m.found.Generation + 1, Covered: m.found.Covered + uint64(m.found.Frames), Length: len(body), Sum: crc.Sum(body)}
	from := to * m.slot
	for k := 0; k*m.size < len(body); k++ {
		part := body[k*m.size:]
		if len(part) < m.size {
			m.all = append(m.all, operation{sector: from + 1 + k})
		}
		whole := slices.Clone(m.sectors[from+1+k])
		copy(whole, part)
		m.all = append(m.all, operation{from + 1 + k, whole})
	}
	head, _ := slots.Header(h)
	whole := make([]byte, m.size)
	copy(whole, head)
	m.all = append(m.all, operation{sector: -1}, operation{from, whole}, operation{sector: -1})
}

// made makes the operations on a copy of d, whose power goes behind n of them, if there are more.
func made(d *power.Device, l []operation, n int) *power.Device {
	c := d.Copy()
	c.Arm(n)
	for _, o := range l {
		switch {
		case o.sector < 0:
			c.Sync()
		case o.bytes == nil:
			c.Read(o.sector)
		default:
			c.Write(o.sector, o.bytes)
		}
	}
	c.Arm(-1)
	return c
}

// wantSameDevice: two devices are in one state, down to what each write that waits would leave.
func wantSameDevice(t *testing.T, d, want *power.Device) {
	t.Helper()
	if d.Down() != want.Down() || d.Count() != want.Count() || d.Waiting() != want.Waiting() {
		t.Fatalf("down %v, count %d, waiting %d; want %v, %d, %d",
			d.Down(), d.Count(), d.Waiting(), want.Down(), want.Count(), want.Waiting())
	}
	for kept := range d.Waiting() + 1 { // one write alone is kept, or none: so their order and their bytes are the same
		fates := make([]api.Fate, d.Waiting())
		if kept < len(fates) {
			fates[kept].Kind = api.FateKeep
		}
		a, b := d.Copy(), want.Copy()
		a.Restart(fates)
		b.Restart(fates)
		if !slices.EqualFunc(a.Image(), b.Image(), bytes.Equal) {
			t.Fatalf("with the write %d kept: %v, want %v", kept, a.Image(), b.Image())
		}
	}
}

// wantAsModel: Open and Look of copies of d find, build and write what the model says, uncut and cut off ahead
// of each operation.
func wantAsModel(t *testing.T, d *power.Device, s api.Shape) {
	t.Helper()
	m := modelOf(t, d, s)
	if most := 4*d.Sectors() + 16; len(m.all) > most {
		t.Fatalf("%d operations, at most %d", len(m.all), most)
	}
	for n := range len(m.all) + 2 {
		c := d.Copy()
		c.Arm(n)
		e, found, err := recovery.Open(c, s)
		c.Arm(-1)
		wantSameDevice(t, c, made(d, m.all, n))
		want := m.open
		if n < len(m.all) {
			want = api.ErrDown
		}
		wantErr(t, "Open", err, want)
		if want != api.OK {
			wantIdle(t, "Open", e)
			if found != (api.Found{}) {
				t.Fatalf("Open: %d, but found %+v", err, found)
			}
			continue
		}
		wantBegun(t, e, found)
		if found != m.found || !book.Same(e.Book(), m.book) || e.Book().Shape() != s {
			t.Fatalf("Open: %+v, %v, want %+v", found, bookingsOf(e), m.found)
		}
	}
	for n := range m.looks + 2 {
		wantLookAsModel(t, d, m, n)
	}
}

// wantLookAsModel: so does Look, with a power that goes at the operation n.
func wantLookAsModel(t *testing.T, d *power.Device, m *model, n int) {
	t.Helper()
	c := d.Copy()
	c.Arm(n)
	found, l, err := recovery.Look(c, m.shape)
	c.Arm(-1)
	wantSameDevice(t, c, made(d, m.all[:m.looks], n))
	want := m.look
	if n < m.looks {
		want = api.ErrDown
	}
	wantErr(t, "Look", err, want)
	if want != api.OK && (found != (api.Found{}) || len(l) > 0) {
		t.Fatalf("Look: %d, but found %+v, %v", err, found, l)
	}
	if want == api.OK && (found != m.found || !slices.Equal(l, slices.Collect(m.book.All()))) {
		t.Fatalf("Look: %+v, %v, want %+v", found, l, m.found)
	}
}

// numbers answers a function that tells numbers below a bound, the same ones for one seed.
func numbers(seed uint64) func(below int) int {
	n := seed
	return func(below int) int {
		n = n*6364136223846793005 + 1442695040888963407
		return int(n >> 33 % uint64(below))
	}
}

// someFates answers fates, at times fewer than writes wait; most are kept, so that some of what comes later counts.
func someFates(chance func(int) int, waiting int) []api.Fate {
	kinds := []api.FateKind{api.FateLose, api.FateTear, api.FateKeep, api.FateKeep, api.FateKeep}
	l := make([]api.Fate, max(0, waiting+1-chance(4)))
	for i := range l {
		l[i] = api.Fate{Kind: kinds[chance(len(kinds))], At: chance(130)}
	}
	return l
}

func someShape(chance func(int) int) api.Shape {
	return api.Shape{Seats: 1 + chance(12), Codes: 1 + chance(12), Group: 1 + chance(9)}
}

// someDevice answers a fresh device for a flight of the shape s, with a log of few sectors.
func someDevice(t *testing.T, chance func(int) int, s api.Shape) *power.Device {
	t.Helper()
	size := 64 << chance(2)
	need := 2*(1+(20+14*min(s.Seats, s.Codes)+size-1)/size) + 1
	return deviceOf(t, need+chance(8), size)
}

// someRequest answers a request of few ids and seats, changes above all.
func someRequest(chance func(int) int, tag uint32) api.Request {
	kinds := []api.RequestKind{1, 1, 1, 1, 2, 2, 3, 4, 4, 5, 6, 7, 8, 8, 9, 10}
	q := api.Request{Kind: kinds[chance(len(kinds))], Tag: tag}
	id, seat, ttl := uint32(1+chance(14)), chance(13), int64(chance(9))
	switch q.Kind {
	case api.ReqHold:
		q.Seat, q.Ttl = seat, ttl
	case api.ReqConfirm, api.ReqCancel, api.ReqQuery:
		q.Id = id
	case api.ReqReseat:
		q.Id, q.Seat = id, seat
	case api.ReqSeat:
		q.Seat = seat
	case api.ReqTick:
		q.Ttl = ttl / 3
	}
	return q
}

// P24.1 to P24.3: of devices on which engines have worked, some of which the power has left: Open and Look are as
// the model, whichever operation is cut off.
func TestAsModel(t *testing.T) {
	for seed := range 60 {
		chance := numbers(uint64(seed))
		s := someShape(chance)
		d := someDevice(t, chance, s)
		for range 1 + chance(4) {
			e, _, err := recovery.Open(d, s)
			wantErr(t, "Open", err, api.OK)
			if chance(3) > 0 {
				d.Arm(chance(40))
			}
			for k := range chance(30) {
				do(t, e, someRequest(chance, uint32(k)))
			}
			if d.Down() || chance(3) == 0 {
				d.Restart(someFates(chance, d.Waiting()))
			}
			d.Arm(-1)
		}
		wantAsModel(t, d, s)
	}
}

// P24.1 to P24.3: the same of devices with forged checkpoints and logs, some of whose bytes were turned by writes
// that wait.
func TestAsModelForged(t *testing.T) {
	for seed := range 80 {
		chance := numbers(uint64(seed) + 700)
		s := someShape(chance)
		d := someDevice(t, chance, s)
		l := planOf(t, d, s)
		seq := []uint64{0, 5, math.MaxUint64 - 2, math.MaxUint64}[chance(4)]
		for k := range chance(4) {
			other := s
			other.Seats += chance(8) / 7
			saved(t, d, s, someImage(t, chance, other, (l.A.Count-1)*l.Size), seq-uint64(k)*uint64(chance(2)))
		}
		h, _, _, err := slotsOf(t, d, s).Load()
		wantErr(t, "Load", err, api.OK)
		if chance(6) == 0 {
			headed(t, d, l.A, api.Header{Generation: math.MaxUint64, Covered: h.Covered, Length: h.Length, Sum: h.Sum})
		}
		logged(t, d, s, h.Generation+uint64(chance(8)/7), h.Covered+uint64(chance(8)/7), someBodies(t, chance, l.Log.Count*l.Size)...)
		for range chance(3) {
			at := chance(d.Sectors())
			b, _ := d.Read(at)
			b[chance(len(b))] ^= byte(1 + chance(255))
			d.Write(at, b)
		}
		wantAsModel(t, d, s)
	}
}

// someImage answers the image of a book of the shape s, if it has at most so many bytes; now and then bytes that are
// none.
func someImage(t *testing.T, chance func(int) int, s api.Shape, most int) []byte {
	t.Helper()
	b, err := book.New(s)
	wantErr(t, "a book", err, api.OK)
	for k := range chance(s.Seats + 1) {
		b.Apply(api.Record{Kind: api.RecHold, Id: uint32(k + 1), Seat: k, Until: int64(3 + chance(5))})
	}
	body := imageOf(t, b)
	if len(body) > most || chance(8) == 0 {
		return make([]byte, chance(most+1))
	}
	return body
}

// someBodies answers records' bytes, now and then others, whose frames have no more bytes than the log.
func someBodies(t *testing.T, chance func(int) int, room int) [][]byte {
	t.Helper()
	var l [][]byte
	for k := range chance(8) {
		body := recordOf(t, api.Record{Kind: api.RecTick, Clock: int64(k + 1)})
		switch chance(6) {
		case 0:
			body = recordOf(t, api.Record{Kind: api.RecCancel, Id: uint32(1 + chance(4))})
		case 1:
			body = recordOf(t, api.Record{Kind: api.RecReseat, Id: uint32(1 + chance(4)), Seat: chance(12)})
		case 2:
			body = body[:chance(9)]
		}
		room -= frame.Size(len(body))
		if room < 0 {
			break
		}
		l = append(l, body)
	}
	return l
}

// flight is a device with what was ever done to it.
type flight struct {
	device  *power.Device
	shape   api.Shape
	engine  *engine.Engine
	history []api.Record // all that was appended and not lost by a crash
	durable int          // so many of it are durable
}

// ask lets the engine do a request and keeps the history.
func (f *flight) ask(t *testing.T, q api.Request) {
	t.Helper()
	if !f.engine.Ready() {
		return
	}
	log := planOf(t, f.device, f.shape).Log.Count * f.device.Size()
	if requests.Changes(q.Kind) {
		r, _, ok, err := cases.Decide(f.engine.Book(), log-f.engine.Used(), q)
		wantErr(t, "Decide", err, api.OK)
		if ok {
			f.history = append(f.history, r)
		}
	}
	do(t, f.engine, q)
	if f.engine.Ready() {
		f.durable = int(f.engine.Durable())
	}
}

// crash lets the power go and come again, and recovers, with a power that may go in the midst of it, again and
// again: what is built is what the first records of the history come to, those that were durable above all, and
// what Look tells; a recovery that was cut off changes nothing of it.
func (f *flight) crash(t *testing.T, chance func(int) int) {
	t.Helper()
	f.device.Restart(someFates(chance, f.device.Waiting()))
	image := f.device.Image()
	want, built, err := recovery.Look(f.device.Copy(), f.shape)
	wantErr(t, "Look", err, api.OK)
	for range chance(5) {
		f.device.Arm(chance(30))
		e, _, err := recovery.Open(f.device, f.shape)
		if err == api.OK && chance(2) == 0 {
			f.wantBuilt(t, e, built)
			do(t, e, api.Request{Kind: api.ReqSave})
		}
		f.device.Restart(someFates(chance, f.device.Waiting()))
		_, l, err := recovery.Look(f.device, f.shape)
		wantErr(t, "Look", err, api.OK)
		if !slices.Equal(l, built) {
			t.Fatalf("Look behind a recovery that was cut off: %v, want %v", l, built)
		}
		f.device.Restart(nil)
	}
	e, found, err := recovery.Open(f.device, f.shape)
	wantErr(t, "Open", err, api.OK)
	wantBegun(t, e, found)
	if total := want.Covered + uint64(want.Frames); e.Last() != total {
		t.Fatalf("the last number is %d, want %d", e.Last(), total)
	}
	f.wantBuilt(t, e, built)
	f.wantOfImage(t, image, e)
	f.engine, f.history = e, f.history[:e.Last()]
	f.durable = len(f.history)
}

// wantBuilt: the engine has those bookings, and its book is one of the history's states.
func (f *flight) wantBuilt(t *testing.T, e *engine.Engine, built []api.Booking) {
	t.Helper()
	k := e.Last()
	if k < uint64(f.durable) || k > uint64(len(f.history)) {
		t.Fatalf("%d records survive, of %d, of which %d were durable", k, len(f.history), f.durable)
	}
	want, _, err := replay.Of(f.shape, f.history[:k])
	if err != api.OK || !book.Same(e.Book(), want) || !slices.Equal(bookingsOf(e), built) {
		t.Fatalf("built: %v, want %v", bookingsOf(e), slices.Collect(want.All()))
	}
}

// wantOfImage: what was built hangs on the sectors that were durable alone.
func (f *flight) wantOfImage(t *testing.T, sectors [][]byte, e *engine.Engine) {
	t.Helper()
	u, err := disk.Of(sectors)
	wantErr(t, "a disk", err, api.OK)
	d, err := power.New(u)
	wantErr(t, "a device", err, api.OK)
	other, _, err := recovery.Open(d, f.shape)
	if err != api.OK || !book.Same(other.Book(), e.Book()) || other.Last() != e.Last() {
		t.Fatalf("of the image: %v, %d, want %v", bookingsOf(other), err, bookingsOf(e))
	}
}

// P24.4: rows of any requests with crashes at any operation, of flushes, saves and recoveries: what is built is
// what the first records come to, all that were durable among them, and an Open that was cut off builds the same
// when it is made again.
func TestSurvives(t *testing.T) {
	for seed := range 300 {
		chance := numbers(uint64(seed) + 9000)
		s := someShape(chance)
		f := &flight{device: someDevice(t, chance, s), shape: s, engine: engine.Idle()}
		f.crash(t, chance)
		for range 6 {
			if chance(6) > 0 {
				f.device.Arm(chance(16)) // few enough that a flush of several sectors is cut off
			}
			for k := range chance(40) {
				f.ask(t, someRequest(chance, uint32(k)))
			}
			f.crash(t, chance)
		}
	}
}

// P24.4: Open behind an Open that was not cut off finds what that saved, no frames, and builds the same.
func TestAgain(t *testing.T) {
	for seed := range 60 {
		chance := numbers(uint64(seed) + 300)
		s := someShape(chance)
		d := someDevice(t, chance, s)
		e, _, err := recovery.Open(d, s)
		wantErr(t, "Open", err, api.OK)
		for k := range chance(60) {
			do(t, e, someRequest(chance, uint32(k)))
		}
		d.Restart(someFates(chance, d.Waiting()))
		e, _, err = recovery.Open(d, s)
		wantErr(t, "Open", err, api.OK)
		for range 3 {
			if chance(2) == 0 {
				d.Restart(someFates(chance, d.Waiting()))
			}
			again := wantOpen(t, d, s, api.Found{Generation: e.Generation(), Covered: e.Last()})
			if !book.Same(again.Book(), e.Book()) {
				t.Fatalf("seed %d: %v, want %v", seed, bookingsOf(again), bookingsOf(e))
			}
			e = again
		}
	}
}

// P24.4: an Open that is cut off at any operation, its writes meeting any fates (all, none, each one alone, torn
// at any byte), builds the same when it is made again; and so it does when that one is cut off, too.
func TestCutOff(t *testing.T) {
	s := api.Shape{Seats: 6, Codes: 5, Group: 9}
	d := deviceOf(t, 12, 64)
	e := wantOpen(t, d, s, api.Found{})
	for seat := range 4 {
		do(t, e, hold(seat, int64(5+seat)))
	}
	do(t, e, api.Request{Kind: api.ReqFlush})
	want := e.Book()
	for n := range len(modelOf(t, d, s).all) {
		c := d.Copy()
		c.Arm(n)
		_, _, err := recovery.Open(c, s)
		wantErr(t, "Open", err, api.ErrDown)
		for _, fates := range allFates(c.Waiting(), d.Size()) {
			left := c.Copy()
			left.Restart(fates)
			wantBuiltSoon(t, left, s, want, n)
		}
	}
}

// P24.4: a flush and a save that are cut off at any operation, the writes meeting any fates: what is built is what
// the first records come to, those that were durable above all; of a flush's some, all and none survive, of a
// save's all or none.
func TestCutOffAhead(t *testing.T) {
	for kind, survive := range map[api.RequestKind][]int{api.ReqFlush: {2, 3, 4, 5, 6, 7}, api.ReqSave: {2, 7}} {
		survived := map[int]int{}
		for n := range 20 {
			f := &flight{device: deviceOf(t, 12, 64), shape: api.Shape{Seats: 9, Codes: 5, Group: 9}}
			f.engine = wantOpen(t, f.device, f.shape, api.Found{})
			f.ask(t, hold(0, 5))
			f.ask(t, hold(1, 6))
			f.ask(t, api.Request{Kind: api.ReqFlush})
			for _, q := range []api.Request{hold(2, 7), {Kind: api.ReqConfirm, Id: 1}, hold(3, 7), {Kind: api.ReqReseat, Id: 2, Seat: 8}, {Kind: api.ReqTick, Ttl: 7}} {
				f.ask(t, q)
			}
			f.device.Arm(n)
			f.ask(t, api.Request{Kind: kind})
			if !f.device.Down() {
				break
			}
			for _, fates := range allFates(f.device.Waiting(), 64) {
				d := f.device.Copy()
				d.Restart(fates)
				e, found, err := recovery.Open(d, f.shape)
				wantErr(t, "Open", err, api.OK)
				wantBegun(t, e, found)
				f.wantBuilt(t, e, bookingsOf(e))
				survived[int(e.Last())]++
			}
		}
		if got := slices.Sorted(maps.Keys(survived)); !slices.Equal(got, survive) {
			t.Errorf("of a request %d that was cut off so many records survive: %v, want %v", kind, got, survive)
		}
	}
}

// allFates answers the fates of so many writes: each of them lost, kept or torn somewhere, the others all lost or
// all kept.
func allFates(waiting, size int) [][]api.Fate {
	l := [][]api.Fate{nil}
	for at := range waiting {
		for _, others := range []api.FateKind{api.FateLose, api.FateKeep} {
			for cut := 0; cut <= size; cut++ {
				row := make([]api.Fate, waiting)
				for i := range row {
					row[i].Kind = others
				}
				row[at] = api.Fate{Kind: api.FateTear, At: cut}
				l = append(l, row)
			}
		}
	}
	return l
}

// wantBuiltSoon: Open builds that book, also when it is cut off at the operation n and made again.
func wantBuiltSoon(t *testing.T, d *power.Device, s api.Shape, want *book.Book, n int) {
	t.Helper()
	c := d.Copy()
	c.Arm(n)
	recovery.Open(c, s)
	fates := make([]api.Fate, c.Waiting())
	for i := range fates {
		fates[i].Kind = api.FateKeep
	}
	c.Restart(fates)
	for _, x := range []*power.Device{d, c} {
		e, _, err := recovery.Open(x, s)
		wantErr(t, "Open", err, api.OK)
		if !book.Same(e.Book(), want) || e.Last() != 4 {
			t.Fatalf("cut off at %d: %v, want %v", n, bookingsOf(e), slices.Collect(want.All()))
		}
	}
}

package engine_test

import (
	"bytes"
	"slices"
	"testing"

	"gangway/api"
	"gangway/book"
	"gangway/cases"
	"gangway/image"
	"gangway/power"
	"gangway/records"
	"gangway/region"
	"gangway/replay"
	"gangway/replies"
	"gangway/requests"
	"gangway/slots"
	"gangway/wal"
)

// model is an engine as the chapter's words say it, over a device of its own.
type model struct {
	ready   bool
	log     *wal.Log
	slots   *slots.Slots
	book    *book.Book
	waiting []api.Reply
	history []api.Record // all that was ever appended
}

func modelOf(f *flight) *model {
	return &model{ready: true, log: f.log, slots: f.slots, book: f.book}
}

func (m *model) do(request []byte) []api.Reply {
	q, err := requests.Get(request)
	refusal := func(err api.Errno) []api.Reply {
		return []api.Reply{{Tag: q.Tag, Kind: q.Kind, Err: err}}
	}
	switch {
	case err != api.OK:
		return []api.Reply{{Err: api.ErrRequest}}
	case !m.ready:
		return refusal(api.ErrNotReady)
	case q.Kind == api.ReqFlush:
		if m.log.Flush() != api.OK {
			m.goDown()
			return refusal(api.ErrNotReady)
		}
		return m.letGo(q)
	case q.Kind == api.ReqSave:
		body, _ := image.Put(m.book)
		h, err := m.slots.Save(body, m.log.Last())
		if err == api.ErrDown {
			m.goDown()
			return refusal(api.ErrNotReady)
		}
		if err != api.OK {
			return refusal(err)
		}
		m.log.Reset(h.Generation)
		return m.letGo(q)
	case requests.Changes(q.Kind):
		return m.change(q)
	}
	y, _ := cases.Answer(m.book, q)
	return []api.Reply{y}
}

func (m *model) change(q api.Request) []api.Reply {
	r, y, ok, _ := cases.Decide(m.book, m.log.Room(), q)
	if ok && m.log.Last() == 1<<64-1 {
		return []api.Reply{{Tag: q.Tag, Kind: q.Kind, Err: api.ErrLogFull}}
	}
	if !ok {
		return []api.Reply{y}
	}
	body, _ := records.Put(r)
	m.log.Append(body)
	m.book.Apply(r)
	m.history = append(m.history, r)
	m.waiting = append(m.waiting, y)
	if len(m.waiting) < m.book.Shape().Group {
		return nil
	}
	if m.log.Flush() != api.OK {
		m.goDown()
		return nil
	}
	out := m.waiting
	m.waiting = nil
	return out
}

func (m *model) letGo(q api.Request) []api.Reply {
	out := append(slices.Clone(m.waiting), api.Reply{Tag: q.Tag, Kind: q.Kind, Count: len(m.waiting)})
	m.waiting = nil
	return out
}

func (m *model) goDown() {
	m.ready, m.waiting = false, nil
}

// state answers what the engine is to tell of itself.
func (m *model) state() state {
	if !m.ready {
		return state{}
	}
	return state{true, len(m.waiting), m.log.Durable(), m.log.Last(), m.log.Used(), m.log.Epoch(), textOf(m.book)}
}

// numbers answers a function that tells numbers below a bound, the same ones for one seed.
func numbers(seed uint64) func(below int) int {
	n := seed
	return func(below int) int {
		n = n*6364136223846793005 + 1442695040888963407
		return int(n >> 33 % uint64(below))
	}
}

// anyRequest answers the bytes of a request of few ids and seats, changes above all; now and then bytes that
// are none.
func anyRequest(t *testing.T, chance func(int) int, tag uint32) []byte {
	t.Helper()
	if chance(20) == 0 {
		b := make([]byte, chance(17))
		for i := range b {
			b[i] = byte(chance(256))
		}
		return b
	}
	kinds := []api.RequestKind{1, 1, 1, 1, 2, 2, 3, 4, 4, 5, 6, 7, 8, 9, 10}
	q := api.Request{Kind: kinds[chance(len(kinds))], Tag: tag}
	id, seat, ttl := uint32(chance(12)), chance(7), int64(chance(9))
	switch q.Kind {
	case api.ReqHold:
		q.Seat, q.Ttl = seat, ttl
	case api.ReqConfirm, api.ReqCancel, api.ReqQuery:
		q.Id = id
	case api.ReqReseat:
		q.Id, q.Seat = id, seat
	case api.ReqSeat:
		q.Seat = seat
	case api.ReqTick:
		q.Ttl = ttl / 3
	}
	return put(t, q)
}

// someFates answers a fate for each write that waits.
func someFates(chance func(int) int, waiting int) []api.Fate {
	l := make([]api.Fate, waiting)
	for i := range l {
		l[i] = api.Fate{Kind: api.FateKind(chance(3)), At: chance(65)}
	}
	return l
}

// wantSameDevice: two devices are in one state, down to what each write that waits would leave.
func wantSameDevice(t *testing.T, d, want *power.Device) {
	t.Helper()
	if d.Down() != want.Down() || d.Count() != want.Count() || d.Waiting() != want.Waiting() {
		t.Fatalf("down %v, count %d, waiting %d; want %v, %d, %d",
			d.Down(), d.Count(), d.Waiting(), want.Down(), want.Count(), want.Waiting())
	}
	for kept := range d.Waiting() + 1 { // one write alone is kept, or none: so their order and their bytes are the same
		fates := make([]api.Fate, d.Waiting())
		if kept < len(fates) {
			fates[kept].Kind = api.FateKeep
		}
		a, b := d.Copy(), want.Copy()
		a.Restart(fates)
		b.Restart(fates)
		if !slices.EqualFunc(a.Image(), b.Image(), bytes.Equal) {
			t.Fatalf("with the write %d kept: %v, want %v", kept, a.Image(), b.Image())
		}
	}
}

// found answers the book that the slots and the log of a device hold, a device with slots of so many sectors.
func found(t *testing.T, d *power.Device, s api.Shape, slot int) *book.Book {
	t.Helper()
	at := func(from, count int) *region.Region { return regionOf(t, d, from, count) }
	two, err := slots.New(at(0, slot), at(slot, slot))
	wantErr(t, "slots", err, api.OK)
	h, body, _, err := two.Load()
	wantErr(t, "Load", err, api.OK)
	b, err := image.Get(s, body)
	wantErr(t, "the image", err, api.OK)
	row, _, err := wal.Scan(at(2*slot, d.Sectors()-2*slot), h.Generation, h.Covered)
	wantErr(t, "Scan", err, api.OK)
	_, err = replay.Run(b, row)
	wantErr(t, "Run", err, api.OK)
	return b
}

// P23.1 to P23.7: rows of any requests, with a power that may go at any operation: each reply, what the
// engine tells of itself and each sector are as the model's.
func TestAsModel(t *testing.T) {
	for seed := range 200 {
		chance := numbers(uint64(seed))
		s := api.Shape{Seats: 1 + chance(6), Codes: 1 + chance(6), Group: 1 + chance(5)}
		slot, log := 2+chance(4), 1+chance(8)
		f, twin := made(t, s, slot, log), made(t, s, slot, log)
		m := modelOf(twin)
		if chance(2) == 0 {
			n := chance(120)
			f.device.Arm(n)
			twin.device.Arm(n)
		}
		for k := range 150 {
			request := anyRequest(t, chance, uint32(k))
			got, want := read(t, f.engine.Do(request)), m.do(request)
			if !slices.Equal(got, want) {
				t.Fatalf("seed %d, Do(%v): %v, want %v", seed, request, got, want)
			}
			if x := stateOf(f.engine); x != m.state() {
				t.Fatalf("seed %d, behind Do(%v): %+v, want %+v", seed, request, x, m.state())
			}
			wantSameDevice(t, f.device, twin.device)
		}
	}
}

// P23.8: of rows of any requests: answers to changes are let go in the order of the changes, each once, and
// only when the change is durable: whatever becomes of the disk then, it has all that was let go; and behind
// a Do that lets go the disk has the engine's book.
func TestDurable(t *testing.T) {
	for seed := range 150 {
		chance := numbers(uint64(seed) + 1000)
		s := api.Shape{Seats: 2 + chance(5), Codes: 2 + chance(5), Group: 1 + chance(5)}
		const slot = 4
		f := made(t, s, slot, 1+chance(10))
		m := modelOf(made(t, s, slot, f.region.Bytes()/64)) // tells the history alone
		if chance(2) == 0 {
			n := chance(100)
			f.device.Arm(n)
			m = modelOf(madeArmed(t, s, slot, f.region.Bytes()/64, n))
		}
		var tags []uint32 // of the changes that were let through and are not answered yet
		answered := 0
		for k := range 120 {
			request := anyRequest(t, chance, uint32(k))
			appended := len(m.history)
			m.do(request)
			if len(m.history) > appended {
				tags = append(tags, uint32(k))
			}
			before := answered
			for _, y := range read(t, f.engine.Do(request)) {
				if y.Err == api.OK && requests.Changes(y.Kind) {
					if len(tags) == 0 || tags[0] != y.Tag {
						t.Fatalf("seed %d: the answer %v, but %v wait", seed, y, tags)
					}
					tags = tags[1:]
					answered++
				}
			}
			if f.engine.Pending() >= s.Group || f.engine.Ready() && f.engine.Pending() != len(tags) {
				t.Fatalf("seed %d: %d wait, group %d, not answered %v", seed, f.engine.Pending(), s.Group, tags)
			}
			if answered > before {
				if f.engine.Durable() != f.engine.Last() || !book.Same(found(t, upOf(f.device), s, slot), f.engine.Book()) {
					t.Fatalf("seed %d: what is let go is not durable", seed)
				}
			}
			wantFound(t, chance, f.device, s, slot, m.history, answered)
		}
	}
}

// upOf answers a copy of a device of which the power does not go.
func upOf(d *power.Device) *power.Device {
	up := d.Copy()
	up.Arm(-1)
	return up
}

// wantFound: behind a crash with any fates the disk has what the first records of the history come to, at
// least those that were answered.
func wantFound(t *testing.T, chance func(int) int, d *power.Device, s api.Shape, slot int, history []api.Record, answered int) {
	t.Helper()
	crashed := d.Copy()
	crashed.Restart(someFates(chance, d.Waiting()))
	b := found(t, crashed, s, slot)
	if _, ok := replay.Find(s, history, answered, b); !ok {
		t.Fatalf("%d of %v are answered, but the disk has %v", answered, history, slices.Collect(b.All()))
	}
}

// madeArmed answers a flight whose power goes behind n operations.
func madeArmed(t *testing.T, s api.Shape, slot, log, n int) *flight {
	t.Helper()
	f := made(t, s, slot, log)
	f.device.Arm(n)
	return f
}

// P23.8: what is refused changes nothing: a row of requests with refusals between them comes to what the row
// comes to without them.
func TestRefusedChangesNothing(t *testing.T) {
	for seed := range 60 {
		chance := numbers(uint64(seed) + 5000)
		s := api.Shape{Seats: 3, Codes: 2, Group: 1 + chance(4)}
		f, plain := made(t, s, 3, 3), made(t, s, 3, 3)
		for k := range 100 {
			request := anyRequest(t, chance, uint32(k))
			was := stateOf(f.engine)
			out := f.engine.Do(request)
			got := read(t, out)
			if len(got) == 1 && got[0].Err != api.OK {
				if x := stateOf(f.engine); x != was {
					t.Fatalf("refused %v: %+v, want %+v", got, x, was)
				}
				continue
			}
			if other := plain.engine.Do(request); !slices.EqualFunc(out, other, bytes.Equal) {
				t.Fatalf("Do(%v): %v, without refusals %v", request, got, read(t, other))
			}
		}
		wantSameDevice(t, f.device, plain.device)
	}
}

// read answers the replies whose bytes those are.
func read(t *testing.T, l [][]byte) []api.Reply {
	t.Helper()
	var out []api.Reply
	for _, b := range l {
		y, err := replies.Get(b)
		if err != api.OK {
			t.Fatalf("%v are no reply's bytes: %d", b, err)
		}
		out = append(out, y)
	}
	return out
}

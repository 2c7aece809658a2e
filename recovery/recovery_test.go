package recovery_test

import (
	"fmt"
	"math"
	"slices"
	"sync"
	"testing"

	"gangway/api"
	"gangway/book"
	"gangway/disk"
	"gangway/engine"
	"gangway/frame"
	"gangway/geometry"
	"gangway/image"
	"gangway/power"
	"gangway/records"
	"gangway/recovery"
	"gangway/region"
	"gangway/replies"
	"gangway/requests"
	"gangway/slots"
)

// usual is the shape of the chapter's examples.
var usual = api.Shape{Seats: 12, Codes: 8, Group: 4}

func wantErr(t *testing.T, what string, err, want api.Errno) {
	t.Helper()
	if err != want {
		t.Fatalf("%s: %d, want %d", what, err, want)
	}
}

func deviceOf(t *testing.T, sectors, size int) *power.Device {
	t.Helper()
	u, err := disk.New(sectors, size)
	wantErr(t, "a disk", err, api.OK)
	d, err := power.New(u)
	wantErr(t, "a device", err, api.OK)
	return d
}

func planOf(t *testing.T, d *power.Device, s api.Shape) api.Layout {
	t.Helper()
	l, err := geometry.Plan(d.Sectors(), d.Size(), s)
	wantErr(t, "Plan", err, api.OK)
	return l
}

func regionOf(t *testing.T, d *power.Device, at api.Span) *region.Region {
	t.Helper()
	r, err := region.New(d, at)
	wantErr(t, "a region", err, api.OK)
	return r
}

func slotsOf(t *testing.T, d *power.Device, s api.Shape) *slots.Slots {
	t.Helper()
	l := planOf(t, d, s)
	two, err := slots.New(regionOf(t, d, l.A), regionOf(t, d, l.B))
	wantErr(t, "slots", err, api.OK)
	return two
}

// saved lets the slots of a device hold that body, as the next checkpoint.
func saved(t *testing.T, d *power.Device, s api.Shape, body []byte, covered uint64) {
	t.Helper()
	_, err := slotsOf(t, d, s).Save(body, covered)
	wantErr(t, "Save", err, api.OK)
}

// headed lets a slot hold no body, under the header h.
func headed(t *testing.T, d *power.Device, slot api.Span, h api.Header) {
	t.Helper()
	b, err := slots.Header(h)
	wantErr(t, "a header", err, api.OK)
	r := regionOf(t, d, slot)
	wantErr(t, "Write", r.Write(0, b), api.OK)
	wantErr(t, "Sync", r.Sync(), api.OK)
}

// logged lets the log of a device begin with frames of these bodies, of that epoch, behind seq.
func logged(t *testing.T, d *power.Device, s api.Shape, epoch, seq uint64, bodies ...[]byte) {
	t.Helper()
	var row []byte
	for k, body := range bodies {
		b, err := frame.Put(api.Frame{Epoch: epoch, Seq: seq + 1 + uint64(k), Body: body})
		wantErr(t, "a frame", err, api.OK)
		row = append(row, b...)
	}
	r := regionOf(t, d, planOf(t, d, s).Log)
	wantErr(t, "Write", r.Write(0, row), api.OK)
	wantErr(t, "Sync", r.Sync(), api.OK)
}

func recordOf(t *testing.T, r api.Record) []byte {
	t.Helper()
	b, err := records.Put(r)
	wantErr(t, "a record", err, api.OK)
	return b
}

func imageOf(t *testing.T, b *book.Book) []byte {
	t.Helper()
	body, err := image.Put(b)
	wantErr(t, "an image", err, api.OK)
	return body
}

func bookOf(t *testing.T, s api.Shape, next uint32, clock int64, l ...api.Booking) *book.Book {
	t.Helper()
	b, err := book.Of(s, next, clock, l)
	wantErr(t, "a book", err, api.OK)
	return b
}

// wantOpen: Open finds that, and answers an engine that goes on from there.
func wantOpen(t *testing.T, d *power.Device, s api.Shape, want api.Found) *engine.Engine {
	t.Helper()
	e, found, err := recovery.Open(d, s)
	if err != api.OK || found != want {
		t.Fatalf("Open: %+v, %d, want %+v", found, err, want)
	}
	wantBegun(t, e, want)
	if e.Book().Shape() != s {
		t.Errorf("the book's shape: %v, want %v", e.Book().Shape(), s)
	}
	return e
}

// wantBegun: the engine is as it is to be behind the recovery that found that.
func wantBegun(t *testing.T, e *engine.Engine, found api.Found) {
	t.Helper()
	last := found.Covered + uint64(found.Frames)
	if !e.Ready() || e.Generation() != found.Generation+1 || e.Last() != last || e.Durable() != last || e.Used() != 0 || e.Pending() != 0 {
		t.Fatalf("found %+v: ready %v, generation %d, last %d, durable %d, used %d, pending %d",
			found, e.Ready(), e.Generation(), e.Last(), e.Durable(), e.Used(), e.Pending())
	}
}

func wantLook(t *testing.T, d *power.Device, s api.Shape, want api.Found, bookings ...api.Booking) {
	t.Helper()
	found, l, err := recovery.Look(d, s)
	if err != api.OK || found != want || !slices.Equal(l, bookings) {
		t.Errorf("Look: %+v, %v, %d, want %+v, %v", found, l, err, want, bookings)
	}
}

// wantRefused: beside the error Open answers an idle engine, and both calls answer nothing found.
func wantRefused(t *testing.T, what string, d *power.Device, s api.Shape, want api.Errno) {
	t.Helper()
	e, found, err := recovery.Open(copyOf(d), s)
	if err != want || found != (api.Found{}) {
		t.Errorf("%s: Open: %+v, %d, want the error %d", what, found, err, want)
	}
	wantIdle(t, what, e)
	found, l, err := recovery.Look(copyOf(d), s)
	if err != want || found != (api.Found{}) || len(l) != 0 {
		t.Errorf("%s: Look: %+v, %v, %d, want the error %d", what, found, l, err, want)
	}
}

// copyOf answers a copy of a device, or what is none, as it is.
func copyOf(d *power.Device) *power.Device {
	if d.Sectors() == 0 {
		return d
	}
	return d.Copy()
}

// wantIdle: the engine is one, and is not ready. (No engine would answer no reply.)
func wantIdle(t *testing.T, what string, e *engine.Engine) {
	t.Helper()
	y := api.Reply{Tag: 3, Kind: api.ReqCount, Err: api.ErrNotReady}
	if got := do(t, e, api.Request{Kind: api.ReqCount, Tag: 3}); e.Ready() || !slices.Equal(got, []api.Reply{y}) {
		t.Errorf("%s: ready %v, answers %v", what, e.Ready(), got)
	}
}

// do answers the replies that a request lets go.
func do(t *testing.T, e *engine.Engine, q api.Request) []api.Reply {
	t.Helper()
	b, err := requests.Put(q)
	wantErr(t, "a request", err, api.OK)
	var out []api.Reply
	for _, b := range e.Do(b) {
		y, err := replies.Get(b)
		wantErr(t, "a reply", err, api.OK)
		out = append(out, y)
	}
	return out
}

func hold(seat int, ttl int64) api.Request {
	return api.Request{Kind: api.ReqHold, Seat: seat, Ttl: ttl}
}

func bookingsOf(e *engine.Engine) []api.Booking {
	return slices.Collect(e.Book().All())
}

func wantBookings(t *testing.T, what string, e *engine.Engine, want ...api.Booking) {
	t.Helper()
	if got := bookingsOf(e); !slices.Equal(got, want) {
		t.Errorf("%s: %v, want %v", what, got, want)
	}
}

// P24.1, P24.2: the chapter's examples 1 to 3.
func TestExamples(t *testing.T) {
	d := deviceOf(t, 20, 64)
	e := wantOpen(t, d, usual, api.Found{})
	wantBookings(t, "of a fresh device", e)
	e = wantOpen(t, d, usual, api.Found{Generation: 1})
	wantLook(t, d, usual, api.Found{Generation: 2})
	do(t, e, hold(3, 9))
	do(t, e, hold(5, 9))
	do(t, e, api.Request{Kind: api.ReqFlush})
	both := []api.Booking{{Id: 1, Seat: 3, Until: 9}, {Id: 2, Seat: 5, Until: 9}}
	wantLook(t, d, usual, api.Found{Generation: 2, Frames: 2}, both...)
	e = wantOpen(t, d, usual, api.Found{Generation: 2, Frames: 2})
	wantBookings(t, "two held", e, both...)
	do(t, e, hold(7, 9))
	d.Restart(nil)
	e = wantOpen(t, d, usual, api.Found{Generation: 3, Covered: 2})
	wantBookings(t, "a third one that was not flushed", e, both...)
	if got := do(t, e, hold(7, 9)); len(got) != 0 || bookingsOf(e)[2].Id != 3 {
		t.Errorf("behind that: %v, %v", got, bookingsOf(e))
	}
	d.Restart(nil)
	d.Arm(0)
	e, found, err := recovery.Open(d, usual)
	if err != api.ErrDown || found != (api.Found{}) || !d.Down() {
		t.Errorf("Open without power: %+v, %d", found, err)
	}
	wantIdle(t, "Open without power", e)
	wantErr(t, "Restart", d.Restart(nil), api.OK)
	wantOpen(t, d, usual, api.Found{Generation: 4, Covered: 2})
}

// DOC.md's example 8: of a flush that is cut off what was kept up to the first loss survives; example 9: behind
// a save the log is empty.
func TestFlightsExamples(t *testing.T) {
	s := api.Shape{Seats: 6, Codes: 4, Group: 3}
	for _, x := range []struct {
		fates []api.Fate
		found api.Found
		seats int
	}{
		{[]api.Fate{{Kind: api.FateKeep}, {Kind: api.FateLose}}, api.Found{Generation: 1, Frames: 1}, 1},
		{[]api.Fate{{Kind: api.FateLose}, {Kind: api.FateKeep}}, api.Found{Generation: 1}, 0},
		{[]api.Fate{{Kind: api.FateKeep}, {Kind: api.FateKeep}}, api.Found{Generation: 1, Frames: 2}, 2},
		{[]api.Fate{{Kind: api.FateTear, At: 36}, {Kind: api.FateKeep}}, api.Found{Generation: 1}, 0},
		{[]api.Fate{{Kind: api.FateTear, At: 37}, {Kind: api.FateKeep}}, api.Found{Generation: 1, Frames: 1}, 1},
	} {
		d := deviceOf(t, 20, 64)
		e := wantOpen(t, d, s, api.Found{})
		do(t, e, hold(2, 9))
		do(t, e, hold(4, 9))
		d.Arm(3) // a sector is written, one read and written; the sync is cut off
		do(t, e, api.Request{Kind: api.ReqFlush})
		if !d.Down() || d.Waiting() != 2 {
			t.Fatalf("down %v, waiting %d", d.Down(), d.Waiting())
		}
		d.Restart(x.fates)
		if e = wantOpen(t, d, s, x.found); len(bookingsOf(e)) != x.seats || e.Book().Next() != uint32(x.seats)+1 {
			t.Errorf("fates %v: %v", x.fates, bookingsOf(e))
		}
	}
	d := deviceOf(t, 20, 64)
	e := wantOpen(t, d, s, api.Found{})
	do(t, e, hold(2, 9))
	do(t, e, hold(4, 9))
	if got := do(t, e, api.Request{Kind: api.ReqSave}); len(got) != 3 || e.Used() != 0 {
		t.Errorf("save: %v, used %d", got, e.Used())
	}
	e = wantOpen(t, d, s, api.Found{Generation: 2, Covered: 2})
	wantBookings(t, "saved", e, api.Booking{Id: 1, Seat: 2, Until: 9}, api.Booking{Id: 2, Seat: 4, Until: 9})
}

// P24.1: the errors ahead of the first operation, in their order; none of them makes one.
func TestRefusedAtOnce(t *testing.T) {
	for _, d := range []*power.Device{nil, {}} {
		wantRefused(t, "no device", d, usual, api.ErrNil)
		wantRefused(t, "no device, no shape", d, api.Shape{}, api.ErrNil)
	}
	d := deviceOf(t, 20, 64)
	for _, s := range []api.Shape{
		{}, {Seats: 0, Codes: 8, Group: 4}, {Seats: 12, Codes: 0, Group: 4}, {Seats: 12, Codes: 8, Group: 0},
		{Seats: -1, Codes: 8, Group: 4}, {Seats: 1025, Codes: 8, Group: 4}, {Seats: 12, Codes: 4097, Group: 4},
		{Seats: 12, Codes: 8, Group: 65}, {Seats: 1025, Codes: 4097, Group: 65},
	} {
		wantRefused(t, fmt.Sprint(s), d, s, api.ErrShape)
	}
	wantRefused(t, "a disk that is too small", d, api.Shape{Seats: 1024, Codes: 4096, Group: 4}, api.ErrSmall)
	wantRefused(t, "a disk that lacks a sector", deviceOf(t, 8, 64), usual, api.ErrSmall)
	d.Arm(0)
	recovery.Open(d, api.Shape{})
	recovery.Look(d, api.Shape{Seats: 1024, Codes: 4096, Group: 4})
	if d.Down() || d.Count() != 0 {
		t.Errorf("refused at once: down %v, count %d", d.Down(), d.Count())
	}
	d.Sync() // the power goes
	wantRefused(t, "down, no shape", d, api.Shape{}, api.ErrShape)
	wantRefused(t, "down, too small", d, api.Shape{Seats: 1024, Codes: 4096, Group: 4}, api.ErrSmall)
	wantRefused(t, "down", d, usual, api.ErrDown)
}

// P24.1: at the limits all is as told: the smallest disk, the greatest shape.
func TestLimits(t *testing.T) {
	for _, x := range []struct {
		sectors, size int
		shape         api.Shape
	}{
		{9, 64, usual},
		{5, 64, api.Shape{Seats: 1, Codes: 1, Group: 1}},
		{453, 64, api.Shape{Seats: 1024, Codes: 4096, Group: 64}},
		{11, 4096, api.Shape{Seats: 1024, Codes: 4096, Group: 64}},
	} {
		d := deviceOf(t, x.sectors, x.size)
		e := wantOpen(t, d, x.shape, api.Found{})
		for seat := range x.shape.Seats {
			if y := do(t, e, hold(seat, 9)); len(y) > 0 && y[len(y)-1].Err == api.ErrLogFull {
				do(t, e, api.Request{Kind: api.ReqSave})
				do(t, e, hold(seat, 9))
			}
		}
		do(t, e, api.Request{Kind: api.ReqFlush})
		held, generation, last, used := bookingsOf(e), e.Generation(), e.Last(), e.Used()
		if len(held) != min(x.shape.Seats, x.shape.Codes) {
			t.Fatalf("%+v: %d held", x, len(held))
		}
		frames := used / frame.Size(len(recordOf(t, api.Record{Kind: api.RecHold, Id: 1, Until: 9})))
		d.Restart(nil)
		e = wantOpen(t, d, x.shape, api.Found{Generation: generation, Covered: last - uint64(frames), Frames: frames})
		wantBookings(t, fmt.Sprint(x), e, held...)
		wantOpen(t, d, x.shape, api.Found{Generation: generation + 1, Covered: last})
	}
}

// P24.1, step 2: a checkpoint whose body is no image of the shape is ErrImage, whatever is wrong with it;
// another group is no other shape.
func TestImage(t *testing.T) {
	whole := imageOf(t, bookOf(t, usual, 3, 5, api.Booking{Id: 1, Seat: 3, Until: 9}, api.Booking{Id: 2, Seat: 0}))
	turned := slices.Clone(whole)
	turned[6] = 0 // the next id is 0
	for what, body := range map[string][]byte{
		"no bytes": nil, "too few": whole[:19], "a booking too few": whole[:34], "one byte more": append(slices.Clone(whole), 0),
		"no book": turned, "of another shape": imageOf(t, bookOf(t, api.Shape{Seats: 11, Codes: 8, Group: 4}, 1, 0)),
	} {
		d := deviceOf(t, 20, 64)
		saved(t, d, usual, whole, 1)
		saved(t, d, usual, body, 2)
		d.Restart(nil)
		wantRefused(t, what, d, usual, api.ErrImage)
		reads := 2 + (len(body)+63)/64
		recovery.Open(d, usual)
		if d.Count() != reads || d.Waiting() != 0 {
			t.Errorf("%s: %d operations, want those of Load, %d", what, d.Count(), reads)
		}
		d.Restart(nil)
		d.Arm(reads) // the power goes at whatever comes behind Load
		wantRefused(t, what+", and the power goes behind Load", d, usual, api.ErrImage)
		d.Arm(reads - 1)
		wantRefused(t, what+", and the power goes in Load", d, usual, api.ErrDown)
	}
	d := deviceOf(t, 20, 64)
	saved(t, d, usual, whole, 7)
	other := api.Shape{Seats: 12, Codes: 8, Group: 1}
	e := wantOpen(t, d, other, api.Found{Generation: 1, Covered: 7})
	wantBookings(t, "of another group", e, api.Booking{Id: 1, Seat: 3, Until: 9}, api.Booking{Id: 2, Seat: 0})
	if e.Book().Clock() != 5 || e.Book().Next() != 3 {
		t.Errorf("the clock %d, the next id %d", e.Book().Clock(), e.Book().Next())
	}
	if y := do(t, e, hold(7, 9)); len(y) != 1 || e.Last() != 8 || e.Durable() != 8 {
		t.Errorf("a change in a group of one: %v, last %d, durable %d", y, e.Last(), e.Durable())
	}
}

// P24.1, steps 1 and 2: the newest whole checkpoint counts; where none does, a new book with the frames of the
// epoch 0.
func TestCheckpoints(t *testing.T) {
	d := deviceOf(t, 20, 64)
	one := bookOf(t, usual, 4, 0, api.Booking{Id: 3, Seat: 1})
	saved(t, d, usual, imageOf(t, one), 5)
	saved(t, d, usual, imageOf(t, bookOf(t, usual, 9, 0, api.Booking{Id: 8, Seat: 2})), 6)
	tick := recordOf(t, api.Record{Kind: api.RecTick, Clock: 77})
	logged(t, d, usual, 1, 5, tick)
	c := d.Copy()
	wantLook(t, c, usual, api.Found{Generation: 2, Covered: 6}, api.Booking{Id: 8, Seat: 2})
	b := regionOf(t, c, planOf(t, c, usual).B)
	b.Write(70, []byte{255}) // the body in B is not whole any more
	e := wantOpen(t, c, usual, api.Found{Generation: 1, Covered: 5, Frames: 1})
	wantBookings(t, "the older checkpoint", e, api.Booking{Id: 3, Seat: 1})
	if e.Book().Clock() != 77 {
		t.Errorf("the frame behind the older checkpoint: the clock %d", e.Book().Clock())
	}
	c = deviceOf(t, 20, 64)
	logged(t, c, usual, 0, 0, recordOf(t, api.Record{Kind: api.RecHold, Id: 1, Seat: 4, Until: 3}), tick)
	wantLook(t, c, usual, api.Found{Frames: 2})
	e = wantOpen(t, c, usual, api.Found{Frames: 2})
	if e.Book().Clock() != 77 || e.Book().Next() != 2 || e.Book().Len() != 0 {
		t.Errorf("frames without a checkpoint: the clock %d, the next id %d", e.Book().Clock(), e.Book().Next())
	}
	c = deviceOf(t, 20, 64)
	logged(t, c, usual, 0, 1, tick) // the first one would have the number 1
	wantOpen(t, c, usual, api.Found{})
	c = deviceOf(t, 20, 64)
	logged(t, c, usual, 1, 0, tick)
	wantOpen(t, c, usual, api.Found{})
}

// P24.1, steps 3 and 4: which frames count: those of the generation, numbered on from what is covered, up to the
// first of which nothing can be applied.
func TestFrames(t *testing.T) {
	first := recordOf(t, api.Record{Kind: api.RecHold, Id: 1, Seat: 3, Until: 9})
	taken := recordOf(t, api.Record{Kind: api.RecHold, Id: 2, Seat: 3, Until: 9})
	tick := recordOf(t, api.Record{Kind: api.RecTick, Clock: 4})
	fresh := imageOf(t, bookOf(t, usual, 1, 0))
	for _, x := range []struct {
		what       string
		epoch, seq uint64
		bodies     [][]byte
		count      int
		clock      int64
	}{
		{"none", 1, 7, nil, 0, 0},
		{"all", 1, 7, [][]byte{first, tick}, 2, 4},
		{"of another epoch", 9, 7, [][]byte{first, tick}, 0, 0},
		{"of an older epoch", 0, 7, [][]byte{first, tick}, 0, 0},
		{"a number is left out", 1, 8, [][]byte{first, tick}, 0, 0},
		{"a number that is covered", 1, 6, [][]byte{first, tick}, 0, 0},
		{"no body", 1, 7, [][]byte{first, nil, tick}, 1, 0},
		{"no record", 1, 7, [][]byte{first, {9}, tick}, 1, 0},
		{"a byte more", 1, 7, [][]byte{first, append(slices.Clone(tick), 0), tick}, 1, 0},
		{"the first one no record", 1, 7, [][]byte{{9}, first}, 0, 0},
		{"a seat that is taken", 1, 7, [][]byte{first, tick, taken, tick}, 2, 4},
		{"a clock that does not rise", 1, 7, [][]byte{first, tick, tick, taken}, 2, 4},
	} {
		d := deviceOf(t, 20, 64)
		saved(t, d, usual, fresh, 7)
		logged(t, d, usual, x.epoch, x.seq, x.bodies...)
		var held []api.Booking
		if x.count > 0 {
			held = []api.Booking{{Id: 1, Seat: 3, Until: 9}}
		}
		found := api.Found{Generation: 1, Covered: 7, Frames: x.count}
		wantLook(t, d, usual, found, held...)
		e := wantOpen(t, d, usual, found)
		wantBookings(t, x.what, e, held...)
		if e.Book().Clock() != x.clock {
			t.Errorf("%s: the clock %d, want %d", x.what, e.Book().Clock(), x.clock)
		}
		next := api.Found{Generation: 2, Covered: 7 + uint64(x.count)}
		wantLook(t, d, usual, next, held...)
		h, body, _, err := slotsOf(t, d, usual).Load()
		if err != api.OK || h.Generation != 2 || h.Covered != next.Covered || !slices.Equal(body, imageOf(t, e.Book())) {
			t.Errorf("%s: the slots hold %+v, %v, %d", x.what, h, body, err)
		}
	}
}

// P24.1, steps 3 to 6: numbers end with 2^64 - 1.
func TestLastNumber(t *testing.T) {
	const last = math.MaxUint64
	tick := recordOf(t, api.Record{Kind: api.RecTick, Clock: 4})
	later := recordOf(t, api.Record{Kind: api.RecTick, Clock: 5})
	d := deviceOf(t, 20, 64)
	saved(t, d, usual, imageOf(t, bookOf(t, usual, 1, 0)), last-1)
	logged(t, d, usual, 1, last-1, tick, later) // the second one has the number 0
	e := wantOpen(t, d, usual, api.Found{Generation: 1, Covered: last - 1, Frames: 1})
	if y := do(t, e, hold(1, 2)); len(y) != 1 || y[0].Err != api.ErrLogFull || e.Book().Clock() != 4 {
		t.Errorf("behind the last number: %v, the clock %d", y, e.Book().Clock())
	}
	d = deviceOf(t, 20, 64)
	saved(t, d, usual, imageOf(t, bookOf(t, usual, 1, 0)), last)
	logged(t, d, usual, 1, last, tick) // of the number 0
	wantOpen(t, d, usual, api.Found{Generation: 1, Covered: last})
}

// P24.1, step 5: behind the last generation there is none; that is told behind Save's Load. Look finds it.
func TestLastGeneration(t *testing.T) {
	const last = math.MaxUint64
	d := deviceOf(t, 20, 64)
	l := planOf(t, d, usual)
	b := bookOf(t, usual, 3, 0, api.Booking{Id: 2, Seat: 5})
	saved(t, d, usual, imageOf(t, b), 8)
	h, _, _, err := slotsOf(t, d, usual).Load()
	wantErr(t, "Load", err, api.OK)
	h.Generation = last - 1
	headed(t, d, l.A, h)
	wantOpen(t, d, usual, api.Found{Generation: last - 1, Covered: 8})
	d.Restart(nil)
	wantLook(t, d, usual, api.Found{Generation: last, Covered: 8}, api.Booking{Id: 2, Seat: 5})
	d.Restart(nil)
	was := d.Image()
	e, found, err := recovery.Open(d, usual)
	if err != api.ErrFull || found != (api.Found{}) {
		t.Errorf("behind the last generation: %+v, %d", found, err)
	}
	wantIdle(t, "behind the last generation", e)
	all := 3 + l.Log.Count + 3 // Load, each sector of the log, Load
	if d.Count() != all || d.Waiting() != 0 || !slices.EqualFunc(d.Image(), was, slices.Equal) {
		t.Errorf("%d operations, want %d; %d wait", d.Count(), all, d.Waiting())
	}
	for n := range all {
		c := d.Copy()
		c.Restart(nil)
		c.Arm(n)
		if _, _, err := recovery.Open(c, usual); err != api.ErrDown {
			t.Errorf("cut off at %d: %d", n, err)
		}
	}
}

// P24.1: beside an error what was written stays: the new body waits, or is durable.
func TestWrittenStays(t *testing.T) {
	d := deviceOf(t, 20, 64)
	ahead := 2 + planOf(t, d, usual).Log.Count + 2 // nothing is held by the slots: no body is read
	for n, waiting := range map[int]int{ahead: 0, ahead + 1: 0, ahead + 2: 1, ahead + 3: 0, ahead + 4: 1} {
		c := d.Copy()
		c.Arm(n)
		_, _, err := recovery.Open(c, usual)
		wantErr(t, fmt.Sprint("cut off at ", n), err, api.ErrDown)
		durable := n >= ahead+3
		if c.Waiting() != waiting || slices.EqualFunc(c.Image(), d.Image(), slices.Equal) == durable {
			t.Errorf("cut off at %d: %d wait, want %d; durable: %v", n, c.Waiting(), waiting, durable)
		}
	}
}

// P24.1: the engine goes on on the device itself: a flush writes to its log, a save to its slots; and it has a
// book of its own.
func TestGoesOn(t *testing.T) {
	d := deviceOf(t, 20, 64)
	l := planOf(t, d, usual)
	e := wantOpen(t, d, usual, api.Found{})
	do(t, e, hold(3, 9))
	was := d.Image()
	do(t, e, api.Request{Kind: api.ReqFlush})
	if changed := changedSectors(was, d.Image()); !slices.Equal(changed, []int{l.Log.From}) {
		t.Errorf("a flush changes the sectors %v", changed)
	}
	was = d.Image()
	if y := do(t, e, api.Request{Kind: api.ReqSave, Tag: 4}); !slices.Equal(y, []api.Reply{{Tag: 4, Kind: api.ReqSave}}) || e.Generation() != 2 {
		t.Errorf("save: %v, the generation %d", y, e.Generation())
	}
	if changed := changedSectors(was, d.Image()); !slices.Equal(changed, []int{l.B.From, l.B.From + 1}) {
		t.Errorf("a save changes the sectors %v", changed)
	}
	other := wantOpen(t, d, usual, api.Found{Generation: 2, Covered: 1})
	do(t, other, hold(7, 9))
	wantBookings(t, "the first engine", e, api.Booking{Id: 1, Seat: 3, Until: 9})
	do(t, e, hold(7, 20))
	wantBookings(t, "the second engine", other, api.Booking{Id: 1, Seat: 3, Until: 9}, api.Booking{Id: 2, Seat: 7, Until: 9})
}

func changedSectors(was, is [][]byte) []int {
	var l []int
	for at := range was {
		if !slices.Equal(was[at], is[at]) {
			l = append(l, at)
		}
	}
	return l
}

// P24.2: Look writes nothing, tells the same again, and what it tells is new memory.
func TestLookWritesNothing(t *testing.T) {
	d := deviceOf(t, 20, 64)
	e := wantOpen(t, d, usual, api.Found{})
	do(t, e, hold(3, 9))
	do(t, e, hold(5, 9))
	do(t, e, api.Request{Kind: api.ReqFlush})
	regionOf(t, d, planOf(t, d, usual).Log).Write(200, []byte{1}) // one write that waits
	c := d.Copy()
	found, l, err := recovery.Look(d, usual)
	wantErr(t, "Look", err, api.OK)
	wantUnwritten(t, d, c)
	l[0] = api.Booking{Id: 9}
	if again, l, _ := recovery.Look(d, usual); again != found || l[0] != (api.Booking{Id: 1, Seat: 3, Until: 9}) {
		t.Errorf("Look again: %+v, %v", again, l)
	}
}

func wantUnwritten(t *testing.T, d, was *power.Device) {
	t.Helper()
	if d.Waiting() != was.Waiting() || !slices.EqualFunc(d.Image(), was.Image(), slices.Equal) {
		t.Errorf("%d writes wait, want %d; the image has changed: %v", d.Waiting(), was.Waiting(), changedSectors(was.Image(), d.Image()))
	}
}

// R7: calls on devices that share nothing may be made at one time.
func TestAtOneTime(t *testing.T) {
	d := deviceOf(t, 20, 64)
	e := wantOpen(t, d, usual, api.Found{})
	do(t, e, hold(3, 9))
	do(t, e, api.Request{Kind: api.ReqFlush})
	var all sync.WaitGroup
	for range 8 {
		c := d.Copy()
		all.Go(func() {
			_, l, _ := recovery.Look(c, usual)
			e, found, err := recovery.Open(c, usual)
			if err != api.OK || found != (api.Found{Generation: 1, Frames: 1}) || !slices.Equal(bookingsOf(e), l) {
				t.Errorf("Open: %+v, %d", found, err)
			}
		})
	}
	all.Wait()
}

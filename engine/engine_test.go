package engine_test

import (
	"bytes"
	"fmt"
	"slices"
	"sync"
	"testing"

	"gangway/api"
	"gangway/book"
	"gangway/disk"
	"gangway/engine"
	"gangway/geometry"
	"gangway/image"
	"gangway/power"
	"gangway/region"
	"gangway/requests"
	"gangway/slots"
	"gangway/wal"
)

// flight is an engine, and what it uses.
type flight struct {
	device *power.Device
	region *region.Region // in which the log lies
	log    *wal.Log
	slots  *slots.Slots
	book   *book.Book
	engine *engine.Engine
}

// small is the shape of the chapter's examples.
var small = api.Shape{Seats: 3, Codes: 2, Group: 2}

func wantErr(t *testing.T, what string, err, want api.Errno) {
	t.Helper()
	if err != want {
		t.Fatalf("%s: %d, want %d", what, err, want)
	}
}

func deviceOf(t *testing.T, sectors int) *power.Device {
	t.Helper()
	u, err := disk.New(sectors, 64)
	wantErr(t, "a disk", err, api.OK)
	d, err := power.New(u)
	wantErr(t, "a device", err, api.OK)
	return d
}

func regionOf(t *testing.T, d *power.Device, from, count int) *region.Region {
	t.Helper()
	r, err := region.New(d, api.Span{From: from, Count: count})
	wantErr(t, "a region", err, api.OK)
	return r
}

// begun answers a flight of slots and a log of so many sectors: the slots hold b in the generation 1 and
// cover seq, the log is empty behind that.
func begun(t *testing.T, b *book.Book, slot, log int, seq uint64) *flight {
	t.Helper()
	f := &flight{device: deviceOf(t, 2*slot+log), book: b}
	var err api.Errno
	f.slots, err = slots.New(regionOf(t, f.device, 0, slot), regionOf(t, f.device, slot, slot))
	wantErr(t, "slots", err, api.OK)
	body, err := image.Put(b)
	wantErr(t, "an image", err, api.OK)
	_, err = f.slots.Save(body, seq)
	wantErr(t, "Save", err, api.OK)
	f.region = regionOf(t, f.device, 2*slot, log)
	f.log, err = wal.New(f.region, 1, seq)
	wantErr(t, "a log", err, api.OK)
	f.device.Restart(nil) // so that operations are counted from here on
	f.engine, err = engine.Make(f.log, f.slots, b)
	wantErr(t, "Make", err, api.OK)
	return f
}

// made answers a flight without bookings.
func made(t *testing.T, s api.Shape, slot, log int) *flight {
	t.Helper()
	b, err := book.New(s)
	wantErr(t, "a book", err, api.OK)
	return begun(t, b, slot, log, 0)
}

// state is what an engine tells of itself.
type state struct {
	ready      bool
	pending    int
	durable    uint64
	last       uint64
	used       int
	generation uint64
	book       string // what it has, as a text; nothing, if there is none
}

func stateOf(e *engine.Engine) state {
	return state{e.Ready(), e.Pending(), e.Durable(), e.Last(), e.Used(), e.Generation(), textOf(e.Book())}
}

func textOf(b *book.Book) string {
	if b == nil {
		return ""
	}
	return fmt.Sprint(b.Shape(), b.Next(), b.Clock(), slices.Collect(b.All()))
}

func wantState(t *testing.T, what string, e *engine.Engine, pending int, last, durable uint64, used int, generation uint64) {
	t.Helper()
	x := stateOf(e)
	x.book = ""
	if want := (state{true, pending, durable, last, used, generation, ""}); x != want {
		t.Errorf("%s: %+v, want %+v", what, x, want)
	}
}

// wantDown: an engine that is not ready tells nothing of itself.
func wantDown(t *testing.T, what string, e *engine.Engine) {
	t.Helper()
	if x := stateOf(e); x != (state{}) || e.Book() != nil {
		t.Errorf("%s: %+v", what, x)
	}
}

func put(t *testing.T, q api.Request) []byte {
	t.Helper()
	b, err := requests.Put(q)
	wantErr(t, "a request", err, api.OK)
	return b
}

// wantDo: the request lets just these replies go.
func wantDo(t *testing.T, e *engine.Engine, q api.Request, want ...api.Reply) {
	t.Helper()
	if got := read(t, e.Do(put(t, q))); !slices.Equal(got, want) {
		t.Errorf("Do(%+v): %v, want %v", q, got, want)
	}
}

// wantRefused: the request is refused with that error, all that the engine tells of itself stays, and no
// operation is made.
func wantRefused(t *testing.T, f *flight, q api.Request, err api.Errno) {
	t.Helper()
	was, count := stateOf(f.engine), f.device.Count()
	wantDo(t, f.engine, q, api.Reply{Tag: q.Tag, Kind: q.Kind, Err: err})
	if x := stateOf(f.engine); x != was || f.device.Count() != count {
		t.Errorf("%+v is refused: %+v, was %+v; %d operations", q, x, was, f.device.Count()-count)
	}
}

func hold(tag uint32, seat int, ttl int64) api.Request {
	return api.Request{Kind: api.ReqHold, Tag: tag, Seat: seat, Ttl: ttl}
}

func byId(k api.RequestKind, tag, id uint32) api.Request {
	return api.Request{Kind: k, Tag: tag, Id: id}
}

func plain(k api.RequestKind, tag uint32) api.Request {
	return api.Request{Kind: k, Tag: tag}
}

func tick(tag uint32, ttl int64) api.Request {
	return api.Request{Kind: api.ReqTick, Tag: tag, Ttl: ttl}
}

func held(tag, id uint32, until int64) api.Reply {
	return api.Reply{Tag: tag, Kind: api.ReqHold, Id: id, Until: until}
}

func done(k api.RequestKind, tag uint32, count int) api.Reply {
	return api.Reply{Tag: tag, Kind: k, Count: count}
}

// oneOfEach is a request of each kind.
func oneOfEach() []api.Request {
	return []api.Request{
		hold(1, 0, 5), byId(api.ReqConfirm, 2, 1), byId(api.ReqCancel, 3, 1),
		{Kind: api.ReqReseat, Tag: 4, Id: 1, Seat: 2}, byId(api.ReqQuery, 5, 1), {Kind: api.ReqSeat, Tag: 6, Seat: 2},
		tick(7, 3), plain(api.ReqFlush, 8), plain(api.ReqSave, 9), plain(api.ReqCount, 1<<32-1),
	}
}

// noRequests is bytes that are no request's.
func noRequests(t *testing.T) [][]byte {
	t.Helper()
	l := [][]byte{nil, {}, {0}, {0, 0, 0, 0, 0}, {11, 0, 0, 0, 0}, {10, 1, 0, 0}, {8, 1, 0, 0, 0, 0},
		bytes.Repeat([]byte{255}, 100), {7, 0, 0, 0, 0, 255, 255, 255, 255, 255, 255, 255, 255}}
	for _, q := range oneOfEach() {
		b := put(t, q)
		l = append(l, b[:len(b)-1], append(slices.Clone(b), 0))
	}
	return l
}

// P23.3 to P23.7: the chapter's examples.
func TestExamples(t *testing.T) {
	f := made(t, small, 3, 4)
	e := f.engine
	wantDo(t, e, hold(5, 0, 10))
	wantState(t, "one waits", e, 1, 1, 0, 37, 1)
	wantDo(t, e, plain(api.ReqCount, 6), done(api.ReqCount, 6, 1))
	wantRefused(t, f, hold(7, 0, 10), api.ErrTaken)
	wantDo(t, e, hold(8, 1, 5), held(5, 1, 10), held(8, 2, 5))
	wantState(t, "two are let go", e, 0, 2, 2, 74, 1)

	wantDo(t, e, byId(api.ReqConfirm, 9, 1))
	wantDo(t, e, plain(api.ReqFlush, 10), api.Reply{Tag: 9, Kind: api.ReqConfirm}, done(api.ReqFlush, 10, 1))
	count := f.device.Count()
	wantDo(t, e, plain(api.ReqFlush, 11), done(api.ReqFlush, 11, 0))
	if f.device.Count() != count {
		t.Errorf("a flush of nothing: %d operations", f.device.Count()-count)
	}
	wantDo(t, e, plain(api.ReqSave, 12), done(api.ReqSave, 12, 0))
	wantState(t, "saved", e, 0, 3, 3, 0, 2)

	if got := read(t, e.Do([]byte{0})); !slices.Equal(got, []api.Reply{{Err: api.ErrRequest}}) {
		t.Errorf("Do of the byte 0: %v", got)
	}
	f.device.Arm(0)
	wantDo(t, e, byId(api.ReqConfirm, 13, 2))
	wantDo(t, e, plain(api.ReqFlush, 14), api.Reply{Tag: 14, Kind: api.ReqFlush, Err: api.ErrNotReady})
	wantDo(t, e, plain(api.ReqCount, 15), api.Reply{Tag: 15, Kind: api.ReqCount, Err: api.ErrNotReady})
	wantDown(t, "the power has gone", e)
}

// P23.3 to P23.6: the examples 3 to 6, 8 and 9 of DOC.md, as far as they are an engine's.
func TestWholeExamples(t *testing.T) {
	s := api.Shape{Seats: 6, Codes: 4, Group: 3}
	plan, err := geometry.Plan(20, 64, s)
	wantErr(t, "Plan", err, api.OK)
	fresh := func() *flight { return made(t, s, plan.A.Count, plan.Log.Count) }

	f := fresh()
	wantDo(t, f.engine, hold(7, 2, 9))
	wantDo(t, f.engine, api.Request{Kind: api.ReqSeat, Tag: 8, Seat: 2}, api.Reply{Tag: 8, Kind: api.ReqSeat, Id: 1, Until: 9})
	wantDo(t, f.engine, plain(api.ReqFlush, 9), held(7, 1, 9), done(api.ReqFlush, 9, 1))

	f = fresh()
	wantDo(t, f.engine, hold(1, 0, 9))
	wantDo(t, f.engine, hold(2, 1, 9))
	wantDo(t, f.engine, hold(3, 2, 9), held(1, 1, 9), held(2, 2, 9), held(3, 3, 9))
	wantRefused(t, f, hold(4, 0, 9), api.ErrTaken)
	wantRefused(t, f, hold(4, 6, 9), api.ErrSeat)
	wantRefused(t, f, hold(4, 3, 0), api.ErrArg)
	wantRefused(t, f, byId(api.ReqConfirm, 4, 9), api.ErrUnknown)
	wantDo(t, f.engine, hold(5, 3, 9))
	wantRefused(t, f, hold(6, 4, 9), api.ErrFull)

	f = fresh()
	wantDo(t, f.engine, hold(1, 0, 9))
	wantDo(t, f.engine, tick(2, 8))
	wantDo(t, f.engine, byId(api.ReqQuery, 3, 1), api.Reply{Tag: 3, Kind: api.ReqQuery, Until: 9})
	wantDo(t, f.engine, tick(4, 1), held(1, 1, 9), api.Reply{Tag: 2, Kind: api.ReqTick, Until: 8}, api.Reply{Tag: 4, Kind: api.ReqTick, Until: 9})
	wantRefused(t, f, byId(api.ReqQuery, 5, 1), api.ErrUnknown)

	f = fresh()
	wantDo(t, f.engine, hold(1, 0, 9))
	wantDo(t, f.engine, hold(2, 1, 9))
	cut := fresh()
	cut.engine.Do(put(t, hold(1, 0, 9)))
	cut.engine.Do(put(t, hold(2, 1, 9)))
	cut.device.Arm(3) // a sector that is told whole is written, the other one read and written
	wantDo(t, cut.engine, plain(api.ReqFlush, 3), api.Reply{Tag: 3, Kind: api.ReqFlush, Err: api.ErrNotReady})
	if cut.device.Waiting() != 2 {
		t.Errorf("%d sectors wait", cut.device.Waiting())
	}
	wantDo(t, f.engine, plain(api.ReqSave, 3), held(1, 1, 9), held(2, 2, 9), done(api.ReqSave, 3, 2))
	wantState(t, "saved", f.engine, 0, 2, 2, 0, 2)
}

// P23.1, R4: what is no log, no slots, no book, alone and together; nothing is kept of what is refused.
func TestMake(t *testing.T) {
	f := made(t, small, 3, 4)
	copied := *f.book
	logs := []*wal.Log{f.log, nil, {}}
	pairs := []*slots.Slots{f.slots, nil, {}}
	books := []*book.Book{f.book, nil, {}, &copied}
	for i, l := range logs {
		for j, s := range pairs {
			for k, b := range books {
				e, err := engine.Make(l, s, b)
				if i == 0 && j == 0 && k == 0 {
					wantErr(t, "Make", err, api.OK)
					wantState(t, "made", e, 0, 0, 0, 0, 1)
				} else if e != nil || err != api.ErrNil {
					t.Errorf("Make of %d, %d, %d: %v, %d", i, j, k, e, err)
				}
			}
		}
	}
}

// P23.1: nothing is read or written, so that the device may be down; the epoch and the numbers are the log's,
// the book is as it is, also where the slots hold another one or none.
func TestMakeDoesNothing(t *testing.T) {
	d := deviceOf(t, 8)
	s, _ := slots.New(regionOf(t, d, 0, 2), regionOf(t, d, 2, 2))
	l, _ := wal.New(regionOf(t, d, 4, 4), 77, 1<<40)
	l.Append([]byte("whatever"))
	b, _ := book.Of(small, 9, 5, []api.Booking{{Id: 3, Seat: 1, Until: 6}})
	d.Arm(0)
	d.Sync()
	e, err := engine.Make(l, s, b)
	wantErr(t, "Make over a device that is down", err, api.OK)
	wantState(t, "made", e, 0, 1<<40+1, 1<<40, 30, 77)
	if d.Count() != 0 || d.Waiting() != 0 || !book.Same(e.Book(), b) {
		t.Errorf("%d operations, %d wait, book %v", d.Count(), d.Waiting(), slices.Collect(e.Book().All()))
	}
	wantDo(t, e, plain(api.ReqCount, 1), done(api.ReqCount, 1, 1))
}

// P23.2, P23.7: an engine that is not ready, as Idle answers it: each is one of its own.
func TestIdle(t *testing.T) {
	e := engine.Idle()
	if e == nil || e == engine.Idle() {
		t.Fatal("no engine of its own")
	}
	wantNotReady(t, "idle", e)
}

// wantNotReady: requests are refused with ErrNotReady, what is none with ErrRequest, one reply each.
func wantNotReady(t *testing.T, what string, e *engine.Engine) {
	t.Helper()
	for range 2 {
		wantDown(t, what, e)
		for _, q := range oneOfEach() {
			wantDo(t, e, q, api.Reply{Tag: q.Tag, Kind: q.Kind, Err: api.ErrNotReady})
		}
		for _, b := range noRequests(t) {
			if got := read(t, e.Do(b)); !slices.Equal(got, []api.Reply{{Err: api.ErrRequest}}) {
				t.Errorf("%s: Do(%v): %v", what, b, got)
			}
		}
	}
}

// P23.2, P23.7, R4: what is no engine answers nothing, a ready one's copy neither.
func TestNone(t *testing.T) {
	f := made(t, small, 3, 4)
	f.engine.Do(put(t, hold(1, 0, 5)))
	was := stateOf(f.engine)
	ready, idle := *f.engine, *engine.Idle()
	for what, e := range map[string]*engine.Engine{"nil": nil, "zero": {}, "a copy": &ready, "a copy of an idle one": &idle} {
		wantDown(t, what, e)
		for _, q := range oneOfEach() {
			wantDo(t, e, q)
		}
		for _, b := range noRequests(t) {
			if l := e.Do(b); len(l) != 0 {
				t.Errorf("%s: Do(%v): %v", what, b, l)
			}
		}
	}
	if x := stateOf(f.engine); x != was {
		t.Errorf("the engine that was copied: %+v, was %+v", x, was)
	}
}

// P23.3: what is no request, while answers wait and while none does.
func TestNoRequest(t *testing.T) {
	f := made(t, small, 3, 4)
	for range 2 {
		was, count := stateOf(f.engine), f.device.Count()
		for _, b := range noRequests(t) {
			if got := read(t, f.engine.Do(b)); !slices.Equal(got, []api.Reply{{Err: api.ErrRequest}}) {
				t.Errorf("Do(%v): %v", b, got)
			}
		}
		if x := stateOf(f.engine); x != was || f.device.Count() != count {
			t.Errorf("%+v, was %+v; %d operations", x, was, f.device.Count()-count)
		}
		f.engine.Do(put(t, tick(1, 1))) // waits
	}
}

// P23.3: questions are answered at once of the book as it is, what waits too, also where the power has gone.
func TestQuestions(t *testing.T) {
	f := made(t, api.Shape{Seats: 3, Codes: 3, Group: 64}, 3, 4)
	wantDo(t, f.engine, hold(1, 1, 5))
	wantDo(t, f.engine, hold(2, 2, 7))
	wantDo(t, f.engine, byId(api.ReqConfirm, 3, 2))
	f.device.Arm(0)
	f.device.Sync()
	was := stateOf(f.engine)
	for range 2 {
		wantDo(t, f.engine, byId(api.ReqQuery, 4, 1), api.Reply{Tag: 4, Kind: api.ReqQuery, Seat: 1, Until: 5})
		wantDo(t, f.engine, byId(api.ReqQuery, 5, 2), api.Reply{Tag: 5, Kind: api.ReqQuery, Seat: 2})
		wantRefused(t, f, byId(api.ReqQuery, 6, 3), api.ErrUnknown)
		wantDo(t, f.engine, api.Request{Kind: api.ReqSeat, Tag: 7, Seat: 2}, api.Reply{Tag: 7, Kind: api.ReqSeat, Id: 2})
		wantRefused(t, f, api.Request{Kind: api.ReqSeat, Tag: 8}, api.ErrUnknown)
		wantRefused(t, f, api.Request{Kind: api.ReqSeat, Tag: 8, Seat: 3}, api.ErrSeat)
		wantDo(t, f.engine, plain(api.ReqCount, 9), done(api.ReqCount, 9, 2))
	}
	if x := stateOf(f.engine); x != was {
		t.Errorf("asked: %+v, was %+v", x, was)
	}
}

// P23.3: each kind of change is refused at once, while another answer waits, and nothing changes.
func TestRefusals(t *testing.T) {
	b, _ := book.Of(small, 5, 1<<40-3, []api.Booking{{Id: 2, Seat: 1}})
	f := begun(t, b, 3, 4, 9)
	wantDo(t, f.engine, hold(1, 0, 1))
	wantRefused(t, f, hold(2, 3, 0), api.ErrSeat)
	wantRefused(t, f, hold(2, 65535, 1), api.ErrSeat)
	wantRefused(t, f, hold(2, 2, 0), api.ErrArg)
	wantRefused(t, f, hold(2, 2, 1<<30+1), api.ErrArg)
	wantRefused(t, f, hold(2, 2, 4), api.ErrClock)
	wantRefused(t, f, hold(2, 1, 3), api.ErrTaken)
	wantRefused(t, f, hold(2, 2, 3), api.ErrFull)
	wantRefused(t, f, byId(api.ReqConfirm, 3, 1), api.ErrUnknown)
	wantRefused(t, f, byId(api.ReqCancel, 4, 6), api.ErrUnknown)
	wantRefused(t, f, api.Request{Kind: api.ReqReseat, Tag: 5, Id: 6, Seat: 3}, api.ErrUnknown)
	wantRefused(t, f, api.Request{Kind: api.ReqReseat, Tag: 5, Id: 5, Seat: 3}, api.ErrSeat)
	wantRefused(t, f, api.Request{Kind: api.ReqReseat, Tag: 5, Id: 5, Seat: 1}, api.ErrTaken)
	wantRefused(t, f, tick(6, 0), api.ErrArg)
	wantRefused(t, f, tick(6, 4), api.ErrClock)
	wantState(t, "one waits", f.engine, 1, 10, 9, 37, 1)
	wantDo(t, f.engine, plain(api.ReqFlush, 7), held(1, 5, 1<<40-2), done(api.ReqFlush, 7, 1))
}

// P23.4: each kind of change, with its reply and the bytes that its frame has.
func TestChanges(t *testing.T) {
	f := made(t, api.Shape{Seats: 3, Codes: 2, Group: 64}, 3, 4)
	used := 0
	for k, c := range []struct {
		q     api.Request
		bytes int
	}{
		{hold(1, 0, 10), 37}, {hold(2, 1, 20), 37}, {byId(api.ReqConfirm, 3, 1), 27}, {byId(api.ReqCancel, 4, 2), 27},
		{api.Request{Kind: api.ReqReseat, Tag: 5, Id: 1, Seat: 2}, 29}, {tick(6, 1<<30), 31},
	} {
		wantDo(t, f.engine, c.q)
		used += c.bytes
		wantState(t, "appended", f.engine, k+1, uint64(k+1), 0, used, 1)
	}
	if f.device.Count() != 0 {
		t.Errorf("%d operations", f.device.Count())
	}
	wantDo(t, f.engine, plain(api.ReqFlush, 7), held(1, 1, 10), held(2, 2, 20), api.Reply{Tag: 3, Kind: api.ReqConfirm},
		api.Reply{Tag: 4, Kind: api.ReqCancel}, api.Reply{Tag: 5, Kind: api.ReqReseat, Seat: 2},
		api.Reply{Tag: 6, Kind: api.ReqTick, Until: 1 << 30}, done(api.ReqFlush, 7, 6))
	wantState(t, "flushed", f.engine, 0, 6, 6, used, 1)
	want, _ := book.Of(small, 3, 1<<30, []api.Booking{{Id: 1, Seat: 2}})
	if !book.Same(f.engine.Book(), want) || !book.Same(found(t, f.device, small, 3), want) {
		t.Errorf("the book: %v", slices.Collect(f.engine.Book().All()))
	}
}

// P23.4: with each group as many answers wait as it says, less one.
func TestGroups(t *testing.T) {
	for group := 1; group <= api.MaxGroup; group++ {
		f := made(t, api.Shape{Seats: 1, Codes: 1, Group: group}, 2, 64)
		for round := range 2 {
			var want []api.Reply
			for k := 1; k < group; k++ {
				wantDo(t, f.engine, tick(uint32(k), 1))
				want = append(want, api.Reply{Tag: uint32(k), Kind: api.ReqTick, Until: int64(round*group + k)})
				if f.engine.Pending() != k {
					t.Fatalf("group %d: %d wait, want %d", group, f.engine.Pending(), k)
				}
			}
			last := uint64(group * (round + 1))
			want = append(want, api.Reply{Tag: 99, Kind: api.ReqTick, Until: int64(last)})
			wantDo(t, f.engine, tick(99, 1), want...)
			wantState(t, "let go", f.engine, 0, last, last, 31*int(last), 1)
		}
	}
}

// P23.3: a record that just fits into the log is taken, one byte less is ErrLogFull; behind a save it fits.
func TestLogFull(t *testing.T) {
	f := made(t, api.Shape{Seats: 3, Codes: 2, Group: 64}, 3, 1)
	wantDo(t, f.engine, hold(1, 0, 10))
	wantRefused(t, f, hold(2, 1, 10), api.ErrLogFull)
	wantRefused(t, f, hold(2, 0, 10), api.ErrTaken)
	wantRefused(t, f, tick(2, 1), api.ErrLogFull)
	wantRefused(t, f, api.Request{Kind: api.ReqReseat, Tag: 2, Id: 1, Seat: 1}, api.ErrLogFull)
	wantDo(t, f.engine, byId(api.ReqConfirm, 3, 1))
	wantState(t, "full", f.engine, 2, 2, 0, 64, 1)
	wantRefused(t, f, byId(api.ReqCancel, 4, 1), api.ErrLogFull)
	wantRefused(t, f, byId(api.ReqCancel, 4, 2), api.ErrUnknown)
	wantDo(t, f.engine, plain(api.ReqFlush, 5), held(1, 1, 10), api.Reply{Tag: 3, Kind: api.ReqConfirm}, done(api.ReqFlush, 5, 2))
	wantRefused(t, f, byId(api.ReqCancel, 6, 1), api.ErrLogFull)
	wantDo(t, f.engine, plain(api.ReqSave, 7), done(api.ReqSave, 7, 0))
	wantDo(t, f.engine, byId(api.ReqCancel, 8, 1))
	wantState(t, "saved", f.engine, 1, 3, 2, 27, 2)
}

// P23.3: where the log has no number any more a change is ErrLogFull behind all else that it is refused for,
// also behind a save, and the rest is answered.
func TestNoNumber(t *testing.T) {
	b, _ := book.New(small)
	f := begun(t, b, 3, 4, 1<<64-2)
	wantDo(t, f.engine, hold(1, 0, 10))
	wantState(t, "the last number", f.engine, 1, 1<<64-1, 1<<64-2, 37, 1)
	for generation := uint64(1); generation <= 2; generation++ {
		wantRefused(t, f, hold(2, 1, 10), api.ErrLogFull)
		wantRefused(t, f, hold(2, 0, 10), api.ErrTaken)
		wantRefused(t, f, byId(api.ReqConfirm, 3, 1), api.ErrLogFull)
		wantRefused(t, f, byId(api.ReqConfirm, 3, 2), api.ErrUnknown)
		wantRefused(t, f, byId(api.ReqCancel, 4, 1), api.ErrLogFull)
		wantRefused(t, f, api.Request{Kind: api.ReqReseat, Tag: 5, Id: 1, Seat: 1}, api.ErrLogFull)
		wantRefused(t, f, tick(6, 1), api.ErrLogFull)
		wantRefused(t, f, tick(6, 0), api.ErrArg)
		wantDo(t, f.engine, plain(api.ReqCount, 7), done(api.ReqCount, 7, 1))
		if generation == 1 {
			wantDo(t, f.engine, plain(api.ReqSave, 8), held(1, 1, 10), done(api.ReqSave, 8, 1))
		}
	}
	wantState(t, "saved", f.engine, 0, 1<<64-1, 1<<64-1, 0, 2)
	wantDo(t, f.engine, plain(api.ReqFlush, 9), done(api.ReqFlush, 9, 0))
}

// P23.5: a flush that has nothing to write makes no operation, so that the power plays no part in it.
func TestFlushOfNothing(t *testing.T) {
	f := made(t, small, 3, 4)
	f.device.Arm(0)
	wantDo(t, f.engine, plain(api.ReqFlush, 1), done(api.ReqFlush, 1, 0))
	f.device.Sync()
	wantDo(t, f.engine, plain(api.ReqFlush, 2), done(api.ReqFlush, 2, 0))
	wantState(t, "ready", f.engine, 0, 0, 0, 0, 1)
}

// P23.4, P23.5: a flush, asked for or by the group, that is cut off at each of its operations: the engine is
// down for good, what waited is never let go, and what it used is left alone from then on.
func TestFlushCut(t *testing.T) {
	ends := []struct {
		q    api.Request
		want []api.Reply
	}{
		{plain(api.ReqFlush, 9), []api.Reply{{Tag: 9, Kind: api.ReqFlush, Err: api.ErrNotReady}}},
		{hold(9, 2, 5), nil},
	}
	for _, end := range ends {
		start := func() *flight {
			f := made(t, api.Shape{Seats: 3, Codes: 3, Group: 3}, 3, 4)
			wantDo(t, f.engine, hold(1, 0, 5))
			wantDo(t, f.engine, hold(2, 1, 5))
			return f
		}
		whole := start()
		if got := whole.engine.Do(put(t, end.q)); len(got) != 3 {
			t.Fatalf("%+v: %v", end.q, read(t, got))
		}
		for n := range whole.device.Count() {
			f := start()
			f.device.Arm(n)
			wantDo(t, f.engine, end.q, end.want...)
			wantDown(t, "cut off", f.engine)
			f.device.Restart(nil)
			last, used := f.log.Last(), f.log.Used()
			wantNotReady(t, "up again", f.engine)
			if f.device.Count() != 0 || f.log.Last() != last || f.log.Used() != used {
				t.Errorf("an engine that is down makes %d operations, log %d, %d", f.device.Count(), f.log.Last(), f.log.Used())
			}
		}
		f := start()
		f.device.Arm(whole.device.Count())
		if got := f.engine.Do(put(t, end.q)); len(got) != 3 || !f.engine.Ready() {
			t.Errorf("armed with enough: %v", read(t, got))
		}
	}
}

// P23.6: a save writes the book's image, what waits in it too, into the other slot, covering all that was
// appended; the log is not written, and begins anew.
func TestSave(t *testing.T) {
	f := made(t, api.Shape{Seats: 3, Codes: 3, Group: 64}, 3, 4)
	wantDo(t, f.engine, hold(1, 0, 5))
	wantDo(t, f.engine, plain(api.ReqFlush, 2), held(1, 1, 5), done(api.ReqFlush, 2, 1))
	log := f.device.Image()[6:]
	wantDo(t, f.engine, hold(3, 2, 6))
	wantDo(t, f.engine, byId(api.ReqConfirm, 4, 1))
	count, twin := f.device.Count(), f.device.Copy()
	pair, _ := slots.New(regionOf(t, twin, 0, 3), regionOf(t, twin, 3, 3))
	was, err := image.Put(f.engine.Book())
	wantErr(t, "the book's image", err, api.OK)
	want, err := pair.Save(was, 3)
	wantErr(t, "Save", err, api.OK)
	wantDo(t, f.engine, plain(api.ReqSave, 5), held(3, 2, 6), api.Reply{Tag: 4, Kind: api.ReqConfirm}, done(api.ReqSave, 5, 2))
	wantState(t, "saved", f.engine, 0, 3, 3, 0, 2)
	if f.device.Count() != twin.Count() || !slices.EqualFunc(f.device.Image(), twin.Image(), bytes.Equal) {
		t.Errorf("%d operations; the image %v", f.device.Count()-count, f.device.Image())
	}
	if !slices.EqualFunc(f.device.Image()[6:], log, bytes.Equal) {
		t.Error("the log is written")
	}
	h, body, at, err := f.slots.Load()
	if h != want || h.Generation != 2 || h.Covered != 3 || !bytes.Equal(body, was) || at != 1 || err != api.OK {
		t.Errorf("Load: %v, %v, %d, %d", h, body, at, err)
	}
	for k := range uint32(4) { // in turns, on and on
		wantDo(t, f.engine, plain(api.ReqSave, k), done(api.ReqSave, k, 0))
		wantState(t, "saved again", f.engine, 0, 3, 3, 0, uint64(3+k))
		if _, _, at, _ := f.slots.Load(); at != int(k%2) {
			t.Errorf("the save %d is in the slot %d", k, at)
		}
	}
}

// P23.6: the epoch is the new header's, whatever that of the log was.
func TestSaveTellsEpoch(t *testing.T) {
	d := deviceOf(t, 8)
	s, _ := slots.New(regionOf(t, d, 0, 2), regionOf(t, d, 2, 2))
	l, _ := wal.New(regionOf(t, d, 4, 4), 50, 7)
	b, _ := book.New(api.Shape{Seats: 1, Codes: 1, Group: 1})
	e, _ := engine.Make(l, s, b)
	wantDo(t, e, plain(api.ReqSave, 1), done(api.ReqSave, 1, 0))
	wantState(t, "saved", e, 0, 7, 7, 0, 1)
}

// P23.6: a save that is cut off at each of its operations: as with a flush; the disk has, with all that waits
// kept or lost, what it had, or what was saved.
func TestSaveCut(t *testing.T) {
	start := func() *flight {
		f := made(t, api.Shape{Seats: 3, Codes: 3, Group: 2}, 3, 4)
		wantDo(t, f.engine, hold(1, 0, 5))
		wantDo(t, f.engine, hold(2, 1, 5), held(1, 1, 5), held(2, 2, 5))
		wantDo(t, f.engine, hold(3, 2, 5))
		return f
	}
	whole := start()
	first := whole.device.Count()
	wantDo(t, whole.engine, plain(api.ReqSave, 4), held(3, 3, 5), done(api.ReqSave, 4, 1))
	for n := range whole.device.Count() - first {
		f := start()
		s, was := f.book.Shape(), found(t, f.device.Copy(), f.book.Shape(), 3)
		f.device.Arm(n)
		wantDo(t, f.engine, plain(api.ReqSave, 4), api.Reply{Tag: 4, Kind: api.ReqSave, Err: api.ErrNotReady})
		wantDown(t, "cut off", f.engine)
		for _, kind := range []api.FateKind{api.FateLose, api.FateKeep} {
			d := f.device.Copy()
			d.Restart(slices.Repeat([]api.Fate{{Kind: kind}}, d.Waiting()))
			if b := found(t, d, s, 3); !book.Same(b, was) && !book.Same(b, whole.book) {
				t.Errorf("cut off at %d: the disk has %v", n, slices.Collect(b.All()))
			}
		}
		f.device.Restart(nil)
		wantNotReady(t, "up again", f.engine)
		if f.device.Count() != 0 {
			t.Errorf("an engine that is down makes %d operations", f.device.Count())
		}
	}
}

// P23.6: an image that is longer than a slot's room is ErrLong, ahead of the power; the engine stays ready,
// what waits waits on, and a shorter image is saved.
func TestSaveLong(t *testing.T) {
	f := made(t, api.Shape{Seats: 9, Codes: 9, Group: 5}, 2, 8) // room for 64 bytes: three bookings
	for k := range 3 {
		wantDo(t, f.engine, hold(uint32(k), k, 5))
	}
	wantDo(t, f.engine, plain(api.ReqSave, 3), held(0, 1, 5), held(1, 2, 5), held(2, 3, 5), done(api.ReqSave, 3, 3))
	wantDo(t, f.engine, hold(4, 3, 5))
	wantRefused(t, f, plain(api.ReqSave, 5), api.ErrLong)
	was := f.device.Copy()
	f.device.Arm(0)
	wantRefused(t, f, plain(api.ReqSave, 6), api.ErrLong)
	f.device.Arm(-1)
	wantSameDevice(t, f.device, was)
	wantState(t, "refused", f.engine, 1, 4, 3, 37, 2)
	wantDo(t, f.engine, byId(api.ReqCancel, 7, 2))
	wantDo(t, f.engine, plain(api.ReqSave, 8), held(4, 4, 5), api.Reply{Tag: 7, Kind: api.ReqCancel}, done(api.ReqSave, 8, 2))
	wantState(t, "saved", f.engine, 0, 5, 5, 0, 3)
}

// P23.6: behind the last generation a save is ErrFull; the engine stays ready, and flushes.
func TestSaveFull(t *testing.T) {
	f := made(t, small, 3, 4)
	last := func(generation uint64) {
		head, err := slots.Header(api.Header{Generation: generation})
		wantErr(t, "Header", err, api.OK)
		f.device.Write(0, append(head, make([]byte, 32)...))
		f.device.Sync()
	}
	last(1<<64 - 2)
	wantDo(t, f.engine, hold(1, 0, 5))
	wantDo(t, f.engine, plain(api.ReqSave, 2), held(1, 1, 5), done(api.ReqSave, 2, 1))
	wantState(t, "the last generation", f.engine, 0, 1, 1, 0, 1<<64-1)
	wantDo(t, f.engine, hold(3, 1, 5))
	was := stateOf(f.engine)
	for range 2 {
		wantDo(t, f.engine, plain(api.ReqSave, 4), api.Reply{Tag: 4, Kind: api.ReqSave, Err: api.ErrFull})
		if x := stateOf(f.engine); x != was || f.device.Waiting() != 0 {
			t.Errorf("refused: %+v, was %+v", x, was)
		}
	}
	wantDo(t, f.engine, plain(api.ReqFlush, 5), held(3, 2, 5), done(api.ReqFlush, 5, 1))
	f.device.Arm(1) // Load is cut off ahead of ErrFull
	wantDo(t, f.engine, plain(api.ReqSave, 6), api.Reply{Tag: 6, Kind: api.ReqSave, Err: api.ErrNotReady})
	wantDown(t, "cut off", f.engine)
}

// P23.6: only what the slots tell counts for a save: where the log's own device is down, it lets go all the same.
func TestSaveOnAnotherDevice(t *testing.T) {
	d, logs := deviceOf(t, 4), deviceOf(t, 4)
	s, _ := slots.New(regionOf(t, d, 0, 2), regionOf(t, d, 2, 2))
	l, _ := wal.New(regionOf(t, logs, 0, 4), 0, 0)
	b, _ := book.New(small)
	e, _ := engine.Make(l, s, b)
	wantDo(t, e, hold(1, 0, 5))
	logs.Arm(0)
	logs.Sync()
	wantDo(t, e, plain(api.ReqSave, 2), held(1, 1, 5), done(api.ReqSave, 2, 1))
	wantDo(t, e, hold(3, 1, 5))
	wantDo(t, e, plain(api.ReqFlush, 4), api.Reply{Tag: 4, Kind: api.ReqFlush, Err: api.ErrNotReady})
	wantDown(t, "the log's device is down", e)
}

// R5: an engine uses its log, slots and book: what is done by others shows, and what is done here shows there.
func TestUses(t *testing.T) {
	f := made(t, small, 3, 4)
	other, err := engine.Make(f.log, f.slots, f.book)
	wantErr(t, "Make", err, api.OK)
	wantDo(t, f.engine, hold(1, 0, 5))
	wantState(t, "the other one", other, 0, 1, 0, 37, 1) // answers wait by themselves
	if x, err := f.book.At(0); x != (api.Booking{Id: 1, Until: 5}) || err != api.OK || f.log.Last() != 1 {
		t.Errorf("the book: %v, %d; the log's last: %d", x, err, f.log.Last())
	}
	wantDo(t, other, plain(api.ReqFlush, 2), done(api.ReqFlush, 2, 0))
	wantState(t, "flushed by the other one", f.engine, 1, 1, 1, 37, 1)
	wantErr(t, "Apply", f.book.Apply(api.Record{Kind: api.RecConfirm, Id: 1}), api.OK)
	wantDo(t, f.engine, byId(api.ReqQuery, 3, 1), api.Reply{Tag: 3, Kind: api.ReqQuery})
	f.log.Append([]byte("x"))
	wantState(t, "appended by others", f.engine, 1, 2, 1, 60, 1)
	f.log.Reset(40)
	wantState(t, "reset by others", f.engine, 1, 2, 2, 0, 40)
	count := f.device.Count()
	wantDo(t, f.engine, plain(api.ReqFlush, 4), held(1, 1, 5), done(api.ReqFlush, 4, 1))
	if f.device.Count() != count {
		t.Errorf("all was durable: %d operations", f.device.Count()-count)
	}
	f.slots.Save([]byte("others"), 0)
	wantDo(t, other, plain(api.ReqSave, 5), done(api.ReqSave, 5, 0))
	wantState(t, "saved behind others", f.engine, 0, 2, 2, 0, 3)
}

// R3: a request is not changed and not kept; replies are new memory each, also those that waited; a book is a copy.
func TestNothingShared(t *testing.T) {
	f := made(t, api.Shape{Seats: 3, Codes: 3, Group: 3}, 3, 4)
	first := put(t, hold(1, 0, 5))
	room := append(slices.Clone(first), 9, 9, 9)
	f.engine.Do(room[:len(first)])
	if !bytes.Equal(room, append(first, 9, 9, 9)) {
		t.Errorf("Do changes what it is handed: %v", room)
	}
	clear(room)
	wantDo(t, f.engine, hold(2, 1, 6))
	out := f.engine.Do(put(t, plain(api.ReqFlush, 3)))
	want := []api.Reply{held(1, 1, 5), held(2, 2, 6), done(api.ReqFlush, 3, 2)}
	for k, b := range out {
		_ = append(b, 1, 2, 3, 4, 5, 6, 7, 8)
		if got := read(t, out); !slices.Equal(got, want) {
			t.Fatalf("behind the reply %d: %v, want %v", k, got, want)
		}
	}
	_ = append(out, []byte("x"))
	for _, b := range out {
		clear(b)
	}
	clear(out)
	wantDo(t, f.engine, byId(api.ReqConfirm, 4, 1))
	wantDo(t, f.engine, byId(api.ReqConfirm, 5, 2))
	again := f.engine.Do(put(t, tick(6, 7)))
	_ = append(again, []byte("y"))
	clear(again)
	wantDo(t, f.engine, tick(7, 1))
	wantDo(t, f.engine, plain(api.ReqFlush, 8), api.Reply{Tag: 7, Kind: api.ReqTick, Until: 8}, done(api.ReqFlush, 8, 1))

	b := f.engine.Book()
	wantErr(t, "Apply", b.Apply(api.Record{Kind: api.RecCancel, Id: 1}), api.OK)
	wantDo(t, f.engine, plain(api.ReqCount, 9), done(api.ReqCount, 9, 2))
	wantDo(t, f.engine, byId(api.ReqCancel, 10, 2))
	if b.Len() != 1 || f.engine.Book().Len() != 1 || f.engine.Book() == f.engine.Book() {
		t.Errorf("the copy has %d bookings, the engine's %d", b.Len(), f.engine.Book().Len())
	}
}

// P23.4, P23.6: the greatest flight, each seat held, in the least log that takes a group.
func TestLimits(t *testing.T) {
	s := api.Shape{Seats: api.MaxSeats, Codes: api.MaxCodes, Group: api.MaxGroup}
	need, err := geometry.Need(s, 64)
	wantErr(t, "Need", err, api.OK)
	f := made(t, s, (need-1)/2, 37)
	answers := 0
	for seat := range api.MaxSeats {
		answers += len(f.engine.Do(put(t, hold(uint32(seat), seat, api.MaxTtl))))
		if (seat+1)%64 == 0 {
			wantState(t, "let go", f.engine, 0, uint64(seat+1), uint64(seat+1), 64*37, uint64(seat/64+1))
			wantRefused(t, f, hold(9999, 1023, 1), errAt(seat))
			wantDo(t, f.engine, plain(api.ReqSave, 1), done(api.ReqSave, 1, 0))
		}
	}
	if answers != api.MaxSeats {
		t.Errorf("%d answers", answers)
	}
	wantDo(t, f.engine, plain(api.ReqCount, 1<<32-1), done(api.ReqCount, 1<<32-1, api.MaxSeats))
	if !book.Same(found(t, f.device, s, (need-1)/2), f.engine.Book()) {
		t.Error("the disk has another book")
	}
}

// errAt tells what a hold of the last seat is refused with when all seats up to that one are held, and the log is full.
func errAt(seat int) api.Errno {
	if seat == api.MaxSeats-1 {
		return api.ErrTaken
	}
	return api.ErrLogFull
}

// R7: calls on engines over different devices may be made at one time.
func TestAtOneTime(t *testing.T) {
	var wait sync.WaitGroup
	for range 8 {
		f := made(t, small, 3, 4)
		wait.Go(func() {
			for k := range uint32(50) {
				wantDo(t, f.engine, hold(k, 0, 5))
				wantDo(t, f.engine, byId(api.ReqCancel, k, k+1), held(k, k+1, 5), api.Reply{Tag: k, Kind: api.ReqCancel})
				wantDo(t, f.engine, plain(api.ReqSave, k), done(api.ReqSave, k, 0))
			}
		})
	}
	wait.Wait()
}

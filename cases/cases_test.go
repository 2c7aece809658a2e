package cases_test

import (
	"math"
	"slices"
	"sync"
	"testing"

	"gangway/api"
	"gangway/book"
	"gangway/cases"
	"gangway/records"
	"gangway/replies"
)

func decide(b *book.Book, room int, q api.Request) decided {
	r, y, ok, err := cases.Decide(b, room, q)
	return decided{r, y, ok, err}
}

func answer(b *book.Book, q api.Request) answered {
	y, err := cases.Answer(b, q)
	return answered{y, err}
}

func wantDecided(t *testing.T, b *book.Book, room int, q api.Request, want decided) {
	t.Helper()
	if d := decide(b, room, q); d != want {
		t.Errorf("Decide of %v, room %d, %+v: %v, want %v", stateOf(b), room, q, d, want)
	}
}

// wantRecord: q comes to the record, with a reply of the fields told.
func wantRecord(t *testing.T, b *book.Book, room int, q api.Request, r api.Record, y api.Reply) {
	t.Helper()
	y.Tag, y.Kind = q.Tag, q.Kind
	wantDecided(t, b, room, q, decided{r, y, true, api.OK})
}

func wantRefused(t *testing.T, b *book.Book, room int, q api.Request, err api.Errno) {
	t.Helper()
	wantDecided(t, b, room, q, decided{reply: api.Reply{Tag: q.Tag, Kind: q.Kind, Err: err}})
}

func wantAnswered(t *testing.T, b *book.Book, q api.Request, want answered) {
	t.Helper()
	if a := answer(b, q); a != want {
		t.Errorf("Answer of %v, %+v: %v, want %v", stateOf(b), q, a, want)
	}
}

// wantReply: q is answered with the fields told.
func wantReply(t *testing.T, b *book.Book, q api.Request, y api.Reply) {
	t.Helper()
	y.Tag, y.Kind = q.Tag, q.Kind
	wantAnswered(t, b, q, answered{reply: y})
}

func hold(seat int, ttl int64) api.Request {
	return api.Request{Kind: api.ReqHold, Tag: 7, Seat: seat, Ttl: ttl}
}

func byId(k api.RequestKind, id uint32) api.Request {
	return api.Request{Kind: k, Tag: 8, Id: id}
}

func reseat(id uint32, seat int) api.Request {
	return api.Request{Kind: api.ReqReseat, Tag: 9, Id: id, Seat: seat}
}

func tick(ttl int64) api.Request {
	return api.Request{Kind: api.ReqTick, Tag: 1<<32 - 1, Ttl: ttl}
}

// example is the book of the chapter's examples.
func example(t *testing.T) *book.Book {
	t.Helper()
	return bookOf(t, state{api.Shape{Seats: 3, Codes: 2, Group: 1}, 2, 4, []api.Booking{{Id: 1, Until: 9}}})
}

// P22.1: the chapter's first example.
func TestHoldExamples(t *testing.T) {
	b := example(t)
	r, y := api.Record{Kind: api.RecHold, Id: 2, Seat: 2, Until: 9}, api.Reply{Id: 2, Until: 9}
	wantRecord(t, b, 100, hold(2, 5), r, y)
	wantRecord(t, b, 37, hold(2, 5), r, y)
	wantRefused(t, b, 36, hold(2, 5), api.ErrLogFull)
	wantRefused(t, b, 100, hold(3, 0), api.ErrSeat)
	wantRefused(t, b, 100, hold(0, 0), api.ErrArg)
	wantRefused(t, b, 100, hold(0, 1), api.ErrTaken)
}

// P22.1: the chapter's second example, and a confirmation and a cancellation of the same book.
func TestOtherChangesExamples(t *testing.T) {
	b := example(t)
	wantRecord(t, b, 100, reseat(1, 0), api.Record{Kind: api.RecReseat, Id: 1}, api.Reply{})
	wantRecord(t, b, 100, reseat(1, 2), api.Record{Kind: api.RecReseat, Id: 1, Seat: 2}, api.Reply{Seat: 2})
	wantRefused(t, b, 100, reseat(2, 9), api.ErrUnknown)
	wantRefused(t, b, 100, reseat(1, 9), api.ErrSeat)
	wantRecord(t, b, 100, tick(3), api.Record{Kind: api.RecTick, Clock: 7}, api.Reply{Until: 7})
	wantDecided(t, b, 100, api.Request{Kind: api.ReqCount}, decided{err: api.ErrRequest})
	for request, record := range map[api.RequestKind]api.RecordKind{api.ReqConfirm: api.RecConfirm, api.ReqCancel: api.RecCancel} {
		wantRecord(t, b, 100, byId(request, 1), api.Record{Kind: record, Id: 1}, api.Reply{})
		wantRefused(t, b, 100, byId(request, 2), api.ErrUnknown)
		wantRefused(t, b, 100, byId(request, 0), api.ErrUnknown)
	}
}

// P22.2: the chapter's third example.
func TestAnswerExamples(t *testing.T) {
	b := example(t)
	wantReply(t, b, byId(api.ReqQuery, 1), api.Reply{Until: 9})
	wantReply(t, b, byId(api.ReqQuery, 2), api.Reply{Err: api.ErrUnknown})
	wantReply(t, b, api.Request{Kind: api.ReqSeat, Tag: 3}, api.Reply{Id: 1, Until: 9})
	wantReply(t, b, api.Request{Kind: api.ReqSeat, Tag: 3, Seat: 1}, api.Reply{Err: api.ErrUnknown})
	wantReply(t, b, api.Request{Kind: api.ReqSeat, Tag: 3, Seat: 3}, api.Reply{Err: api.ErrSeat})
	wantReply(t, b, api.Request{Kind: api.ReqCount, Tag: 3}, api.Reply{Count: 1})
	wantAnswered(t, b, hold(1, 1), answered{err: api.ErrRequest})
}

// P22.2: a booking in another seat than 0, and a confirmed one, whose Until is 0.
func TestAnswerOfBookings(t *testing.T) {
	b := bookOf(t, states()[2])
	wantReply(t, b, byId(api.ReqQuery, 3), api.Reply{Seat: 2})
	wantReply(t, b, api.Request{Kind: api.ReqSeat, Seat: 2}, api.Reply{Id: 3})
	wantReply(t, b, api.Request{Kind: api.ReqCount}, api.Reply{Count: 2})
}

// P22.1: each reason goes ahead of those behind it, and is told as long as it is there.
func TestOrderOfReasons(t *testing.T) {
	const last = api.MaxClock
	s := state{api.Shape{Seats: 3, Codes: 2, Group: 1}, 5, last - 5, []api.Booking{{Id: 1, Seat: 0}, {Id: 3, Seat: 1, Until: last}}}
	full := bookOf(t, s)
	wantRefused(t, full, 0, hold(3, 0), api.ErrSeat)
	wantRefused(t, full, 0, hold(0, api.MaxTtl+1), api.ErrArg)
	wantRefused(t, full, 0, hold(0, 6), api.ErrClock)
	wantRefused(t, full, 0, hold(0, 5), api.ErrTaken)
	wantRefused(t, full, 0, hold(2, 5), api.ErrFull)
	wantRefused(t, full, 0, reseat(2, 3), api.ErrUnknown)
	wantRefused(t, full, 0, reseat(1, 3), api.ErrSeat)
	wantRefused(t, full, 0, reseat(1, 1), api.ErrTaken)
	wantRefused(t, full, 0, reseat(1, 2), api.ErrLogFull)
	wantRefused(t, full, 0, tick(api.MaxTtl+1), api.ErrArg)
	wantRefused(t, full, 0, tick(6), api.ErrClock)
	wantRefused(t, full, 0, tick(5), api.ErrLogFull)
	wantRefused(t, full, 0, byId(api.ReqConfirm, 2), api.ErrUnknown)
	wantRefused(t, full, 0, byId(api.ReqConfirm, 1), api.ErrLogFull)
	wantRefused(t, full, 0, byId(api.ReqCancel, 2), api.ErrUnknown)
	wantRefused(t, full, 0, byId(api.ReqCancel, 3), api.ErrLogFull)
	s.l = s.l[:1]
	wantRefused(t, bookOf(t, s), 0, hold(2, 5), api.ErrLogFull)
}

// P22.1: a room just as long as the frame is taken, one byte less is not, and least of all one below 0.
func TestRoom(t *testing.T) {
	b := example(t)
	for _, x := range []struct {
		q    api.Request
		size int
	}{
		{hold(2, 5), 37}, {byId(api.ReqConfirm, 1), 27}, {byId(api.ReqCancel, 1), 27}, {reseat(1, 1), 29}, {tick(1), 31},
	} {
		want := decide(b, math.MaxInt, x.q)
		if !want.ok {
			t.Errorf("%v with any room: %v", x.q, want)
		}
		for room := -2; room < 60; room++ {
			if room < x.size {
				wantRefused(t, b, room, x.q, api.ErrLogFull)
			} else {
				wantDecided(t, b, room, x.q, want)
			}
		}
		wantRefused(t, b, math.MinInt, x.q, api.ErrLogFull)
	}
}

// P22.1: the longest hold and tick, the last tick of all, and one more.
func TestTtlAndClock(t *testing.T) {
	const most, last = api.MaxTtl, api.MaxClock
	s := state{api.Shape{Seats: 3, Codes: 2, Group: 1}, 1, 0, nil}
	for _, ttl := range []int64{0, most + 1, last, math.MaxInt64} {
		wantRefused(t, bookOf(t, s), 100, hold(0, ttl), api.ErrArg)
		wantRefused(t, bookOf(t, s), 100, tick(ttl), api.ErrArg)
	}
	for _, clock := range []int64{0, 1, last - most - 1, last - most} {
		s.clock = clock
		wantRecord(t, bookOf(t, s), 100, hold(0, most), api.Record{Kind: api.RecHold, Id: 1, Until: clock + most}, api.Reply{Id: 1, Until: clock + most})
		wantRecord(t, bookOf(t, s), 100, tick(most), api.Record{Kind: api.RecTick, Clock: clock + most}, api.Reply{Until: clock + most})
	}
	for _, clock := range []int64{last - most + 1, last - 1, last} {
		s.clock = clock
		wantRefused(t, bookOf(t, s), 100, hold(0, most), api.ErrClock)
		wantRefused(t, bookOf(t, s), 100, tick(last-clock+1), api.ErrClock)
		wantRefused(t, bookOf(t, s), 100, tick(math.MaxInt64), api.ErrArg)
	}
	s.clock = last - 1
	wantRecord(t, bookOf(t, s), 100, tick(1), api.Record{Kind: api.RecTick, Clock: last}, api.Reply{Until: last})
}

// P22.1: a book without room for a booking, and one without an id; the id ahead of the last is given.
func TestFull(t *testing.T) {
	s := state{api.Shape{Seats: 4, Codes: 2, Group: 1}, 1<<32 - 1, 0, nil}
	wantRefused(t, bookOf(t, s), 100, hold(0, 1), api.ErrFull)
	s.next--
	wantRecord(t, bookOf(t, s), 100, hold(0, 1), api.Record{Kind: api.RecHold, Id: 1<<32 - 2, Until: 1}, api.Reply{Id: 1<<32 - 2, Until: 1})
	s.l = []api.Booking{{Id: 1}, {Id: 2, Seat: 1}}
	wantRefused(t, bookOf(t, s), 100, hold(2, 1), api.ErrFull)
	wantRefused(t, bookOf(t, s), 100, hold(1, 1), api.ErrTaken)
}

// P22.1, P22.2: no book tells ErrNil, whatever is asked of it, and nothing beside it.
func TestNoBook(t *testing.T) {
	made := example(t)
	copied := *made
	for _, b := range []*book.Book{nil, {}, &copied} {
		for _, q := range edges()[:2000] {
			if d, want := decide(b, 100, q), (decided{err: api.ErrNil}); d != want {
				t.Errorf("Decide of no book, %v: %v", q, d)
			}
			if a, want := answer(b, q), (answered{err: api.ErrNil}); a != want {
				t.Errorf("Answer of no book, %v: %v", q, a)
			}
		}
	}
}

// P22.1, P22.2: of a request that may not be, or is of a kind for the other call or for none, ErrRequest alone.
func TestNoSuchRequest(t *testing.T) {
	b := example(t)
	for _, q := range []api.Request{
		{}, {Kind: -1}, {Kind: 11}, {Kind: api.ReqFlush, Tag: 1}, {Kind: api.ReqSave, Tag: 1},
		{Kind: api.ReqHold, Id: 1, Seat: 1, Ttl: 1}, {Kind: api.ReqHold, Seat: -1, Ttl: 1}, {Kind: api.ReqHold, Seat: 65536, Ttl: 1},
		{Kind: api.ReqHold, Seat: 1, Ttl: -1}, {Kind: api.ReqConfirm, Id: 1, Seat: 1}, {Kind: api.ReqCancel, Id: 1, Ttl: 1},
		{Kind: api.ReqReseat, Id: 1, Seat: -1}, {Kind: api.ReqReseat, Id: 1, Ttl: 1}, {Kind: api.ReqTick, Ttl: -1},
		{Kind: api.ReqTick, Ttl: 1, Id: 1}, {Kind: api.ReqQuery, Id: 1, Seat: 1}, {Kind: api.ReqSeat, Seat: -1},
		{Kind: api.ReqSeat, Seat: 65536}, {Kind: api.ReqSeat, Id: 1}, {Kind: api.ReqCount, Id: 1}, {Kind: api.ReqCount, Ttl: 1},
	} {
		wantDecided(t, b, 100, q, decided{err: api.ErrRequest})
		wantAnswered(t, b, q, answered{err: api.ErrRequest})
	}
	for _, q := range []api.Request{byId(api.ReqQuery, 1), {Kind: api.ReqSeat}, {Kind: api.ReqCount}} {
		wantDecided(t, b, 100, q, decided{err: api.ErrRequest})
	}
	for _, q := range []api.Request{hold(1, 1), byId(api.ReqConfirm, 1), byId(api.ReqCancel, 1), reseat(1, 1), tick(1)} {
		wantAnswered(t, b, q, answered{err: api.ErrRequest})
	}
	wantRefused(t, b, 100, hold(65535, 1), api.ErrSeat)
	wantReply(t, b, api.Request{Kind: api.ReqSeat, Seat: 65535}, api.Reply{Err: api.ErrSeat})
}

// P22.3: of each kind just what it has, whatever the request and the record are.
func TestReply(t *testing.T) {
	for kind := api.RequestKind(-2); kind < 14; kind++ {
		for _, r := range []api.Record{
			{},
			{Kind: api.RecTick, Id: 11, Seat: 12, Until: 13, Clock: 14},
			{Kind: 99, Id: 1<<32 - 1, Seat: -1, Until: math.MinInt64, Clock: -5},
		} {
			want := api.Reply{Tag: 0xFEDCBA98, Kind: kind}
			switch kind {
			case 1:
				want.Id, want.Until = r.Id, r.Until
			case 4:
				want.Seat = r.Seat
			case 7:
				want.Until = r.Clock
			}
			q := api.Request{Kind: kind, Tag: 0xFEDCBA98, Id: 21, Seat: -22, Ttl: 23}
			if y := cases.Reply(q, r); y != want {
				t.Errorf("Reply of %v, %v: %v, want %v", q, r, y, want)
			}
		}
	}
}

// wantAll holds what is told of q, with that room, against the model and what follows from it.
func wantAll(t *testing.T, s state, b *book.Book, room int, q api.Request) decided {
	t.Helper()
	wantAnswered(t, b, q, answerOf(s, q))
	d := decide(b, room, q)
	wantDecided(t, b, room, q, decideOf(s, room, q))
	if !d.ok {
		return d
	}
	if records.Check(d.record) != api.OK || b.Copy().Apply(d.record) != api.OK {
		t.Errorf("%v: %v can't be applied", s, d.record)
	}
	if cases.Reply(q, d.record) != d.reply {
		t.Errorf("%v: Reply of %v, %v is not %v", s, q, d.record, d.reply)
	}
	return d
}

// P22.1, P22.2, P22.4: all edges against the model; the record can be applied, each reply may be, and the book stays.
func TestEdges(t *testing.T) {
	for _, s := range states() {
		b := bookOf(t, s)
		for _, q := range edges() {
			for _, room := range []int{0, 26, 27, 28, 29, 30, 31, 36, 37, 54} {
				d := wantAll(t, s, b, room, q)
				if d.err == api.OK && replies.Check(d.reply) != api.OK {
					t.Errorf("%v: the reply %v may not be", s, d.reply)
				}
			}
			if a := answer(b, q); a.err == api.OK && replies.Check(a.reply) != api.OK {
				t.Errorf("%v: the reply %v may not be", s, a.reply)
			}
		}
		if !isSame(stateOf(b), s) {
			t.Errorf("the book %v has become %v", s, stateOf(b))
		}
	}
}

// P22.4: more room refuses nothing that was not refused, and changes no refusal but ErrLogFull.
func TestMoreRoom(t *testing.T) {
	for _, s := range states() {
		b := bookOf(t, s)
		for _, q := range edges() {
			was := decide(b, 0, q)
			for _, room := range []int{27, 29, 31, 37, 1 << 40} {
				d := decide(b, room, q)
				if was != d && was.reply.Err != api.ErrLogFull {
					t.Errorf("%v, %v: %v, with the room %d %v", s, q, was, room, d)
				}
				was = d
			}
			if was.reply.Err == api.ErrLogFull {
				t.Errorf("%v, %v: no room is enough", s, q)
			}
		}
	}
}

// P22.1, P22.2, P22.4: rows of any requests, of which the records are applied.
func TestRows(t *testing.T) {
	for seed := range uint64(60) {
		next := chance(seed)
		shape := api.Shape{Seats: 1 + int(next(6)), Codes: 1 + int(next(6)), Group: 1}
		b := bookOf(t, state{shape, 1, 0, nil})
		for range 400 {
			s := stateOf(b)
			d := wantAll(t, s, b, 26+int(next(40)), anyRequest(next))
			if !isSame(stateOf(b), s) {
				t.Fatalf("the book %v has become %v", s, stateOf(b))
			}
			if d.ok {
				b.Apply(d.record)
			}
		}
	}
}

// P22.4: what is decided of a book is decided of another one that is as it, and again.
func TestAgain(t *testing.T) {
	for _, s := range states() {
		one, other := bookOf(t, s), bookOf(t, s).Copy()
		for _, q := range edges() {
			if a, b, c := decide(one, 37, q), decide(other, 37, q), decide(one, 37, q); a != b || a != c {
				t.Errorf("%v, %v: %v, %v, %v", s, q, a, b, c)
			}
		}
	}
}

// R7: calls on books of their own may be made at one time.
func TestAtOneTime(t *testing.T) {
	all := states()
	var wait sync.WaitGroup
	for i := range 8 {
		s := all[i%len(all)]
		b := bookOf(t, s)
		wait.Go(func() {
			for _, q := range slices.Concat(edges()[:1500], []api.Request{hold(1, 1), tick(1), reseat(1, 2)}) {
				if d := decide(b, 100, q); d != decideOf(s, 100, q) {
					t.Errorf("%v, %v: %v", s, q, d)
				}
				if a := answer(b, q); a != answerOf(s, q) {
					t.Errorf("%v, %v: %v", s, q, a)
				}
			}
		})
	}
	wait.Wait()
}

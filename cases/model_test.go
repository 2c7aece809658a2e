package cases_test

import (
	"slices"
	"testing"

	"gangway/api"
	"gangway/book"
)

// state is a book as plain numbers.
type state struct {
	shape api.Shape
	next  uint32
	clock int64
	l     []api.Booking
}

// bookOf answers the book of which s tells.
func bookOf(t *testing.T, s state) *book.Book {
	t.Helper()
	b, err := book.Of(s.shape, s.next, s.clock, s.l)
	if err != api.OK {
		t.Fatalf("book.Of %v: %d", s, err)
	}
	return b
}

// stateOf answers what b tells of itself.
func stateOf(b *book.Book) state {
	return state{b.Shape(), b.Next(), b.Clock(), slices.Collect(b.All())}
}

func isSame(one, other state) bool {
	return one.shape == other.shape && one.next == other.next && one.clock == other.clock && slices.Equal(one.l, other.l)
}

// decided is what Decide tells, answered what Answer tells.
type decided struct {
	record api.Record
	reply  api.Reply
	ok     bool
	err    api.Errno
}

type answered struct {
	reply api.Reply
	err   api.Errno
}

// reasons is the chapter's table: of each kind of change the errors, in their order.
var reasons = map[api.RequestKind][]api.Errno{
	api.ReqHold:    {api.ErrSeat, api.ErrArg, api.ErrClock, api.ErrTaken, api.ErrFull, api.ErrLogFull},
	api.ReqConfirm: {api.ErrUnknown, api.ErrLogFull},
	api.ReqCancel:  {api.ErrUnknown, api.ErrLogFull},
	api.ReqReseat:  {api.ErrUnknown, api.ErrSeat, api.ErrTaken, api.ErrLogFull},
	api.ReqTick:    {api.ErrArg, api.ErrClock, api.ErrLogFull},
}

// frames tells how many bytes the frame of each kind of change has.
var frames = map[api.RequestKind]int{
	api.ReqHold: 37, api.ReqConfirm: 27, api.ReqCancel: 27, api.ReqReseat: 29, api.ReqTick: 31,
}

// mayBe tells whether q is a request that may be.
func mayBe(q api.Request) bool {
	has := map[api.RequestKind]string{1: "st", 2: "i", 3: "i", 4: "is", 5: "i", 6: "s", 7: "t", 8: "", 9: "", 10: ""}
	fields, there := has[q.Kind]
	id, seat, ttl := q.Id, q.Seat, q.Ttl
	for _, f := range fields {
		switch f {
		case 'i':
			id = 0
		case 's':
			if seat >= 0 && seat <= 65535 {
				seat = 0
			}
		case 't':
			if ttl >= 0 {
				ttl = 0
			}
		}
	}
	return there && id == 0 && seat == 0 && ttl == 0
}

// holds tells whether the reason err is there for refusing q, whatever the others are.
func (s state) holds(err api.Errno, room int, q api.Request) bool {
	const mostTtl, lastTick = 1 << 30, 1 << 40
	switch err {
	case api.ErrSeat:
		return q.Seat >= s.shape.Seats
	case api.ErrArg:
		return q.Ttl == 0 || q.Ttl > mostTtl
	case api.ErrClock:
		return s.clock > lastTick-q.Ttl
	case api.ErrTaken:
		return slices.ContainsFunc(s.l, func(x api.Booking) bool { return x.Seat == q.Seat && x.Id != q.Id })
	case api.ErrFull:
		return len(s.l) == s.shape.Codes || s.next == 1<<32-1
	case api.ErrUnknown:
		return !slices.ContainsFunc(s.l, func(x api.Booking) bool { return x.Id == q.Id })
	default:
		return room < frames[q.Kind]
	}
}

// decideOf answers what Decide is to tell of a book in the state s.
func decideOf(s state, room int, q api.Request) decided {
	list, change := reasons[q.Kind]
	if !change || !mayBe(q) {
		return decided{err: api.ErrRequest}
	}
	reply := api.Reply{Tag: q.Tag, Kind: q.Kind}
	for _, err := range list {
		if s.holds(err, room, q) {
			reply.Err = err
			return decided{reply: reply}
		}
	}
	var r api.Record
	switch q.Kind {
	case api.ReqHold:
		r = api.Record{Kind: api.RecHold, Id: s.next, Seat: q.Seat, Until: s.clock + q.Ttl}
		reply.Id, reply.Until = s.next, s.clock+q.Ttl
	case api.ReqConfirm:
		r = api.Record{Kind: api.RecConfirm, Id: q.Id}
	case api.ReqCancel:
		r = api.Record{Kind: api.RecCancel, Id: q.Id}
	case api.ReqReseat:
		r = api.Record{Kind: api.RecReseat, Id: q.Id, Seat: q.Seat}
		reply.Seat = q.Seat
	case api.ReqTick:
		r = api.Record{Kind: api.RecTick, Clock: s.clock + q.Ttl}
		reply.Until = s.clock + q.Ttl
	}
	return decided{r, reply, true, api.OK}
}

// answerOf answers what Answer is to tell of a book in the state s.
func answerOf(s state, q api.Request) answered {
	question := q.Kind == api.ReqQuery || q.Kind == api.ReqSeat || q.Kind == api.ReqCount
	if !question || !mayBe(q) {
		return answered{err: api.ErrRequest}
	}
	reply := api.Reply{Tag: q.Tag, Kind: q.Kind, Err: api.ErrUnknown}
	if q.Kind == api.ReqCount {
		reply.Err, reply.Count = api.OK, len(s.l)
	}
	if q.Kind == api.ReqSeat && q.Seat >= s.shape.Seats {
		reply.Err = api.ErrSeat
	}
	for _, x := range s.l {
		if q.Kind == api.ReqQuery && x.Id == q.Id {
			reply.Err, reply.Seat, reply.Until = api.OK, x.Seat, x.Until
		}
		if q.Kind == api.ReqSeat && x.Seat == q.Seat {
			reply.Err, reply.Id, reply.Until = api.OK, x.Id, x.Until
		}
	}
	return answered{reply: reply}
}

// states are books at their edges: without bookings, full, without an id left, with each clock that matters.
func states() []state {
	const last = 1 << 40
	s := api.Shape{Seats: 3, Codes: 2, Group: 1}
	one := []api.Booking{{Id: 1, Until: 9}}
	return []state{
		{s, 1, 0, nil},
		{s, 2, 4, one},
		{s, 4, 8, []api.Booking{{Id: 1, Until: 9}, {Id: 3, Seat: 2}}},
		{s, 9, last - 1, []api.Booking{{Id: 2, Seat: 1, Until: last}}},
		{s, 9, last, []api.Booking{{Id: 2, Seat: 1}}},
		{s, 9, last - 1<<30, nil},
		{s, 9, last - 1<<30 + 1, nil},
		{s, 1<<32 - 1, 3, []api.Booking{{Id: 1<<32 - 2, Seat: 0, Until: 9}}},
		{s, 1<<32 - 2, 3, []api.Booking{{Id: 1<<32 - 3, Seat: 1}}},
		{api.Shape{Seats: 1, Codes: 1, Group: 1}, 2, 0, one},
		{api.Shape{Seats: 1024, Codes: 1, Group: 64}, 7, 5, []api.Booking{{Id: 6, Seat: 1023}}},
		{api.Shape{Seats: 1024, Codes: 4096, Group: 64}, 7, 5, []api.Booking{{Id: 6, Seat: 1023, Until: 6}}},
	}
}

// edges are requests with every number that matters, of all kinds and of none, those that may not be too.
func edges() []api.Request {
	var l []api.Request
	for kind := api.RequestKind(-1); kind <= 12; kind++ {
		for _, id := range []uint32{0, 1, 2, 3, 6, 9, 1<<32 - 3, 1<<32 - 2, 1<<32 - 1} {
			for _, seat := range []int{-1, 0, 1, 2, 3, 1023, 1024, 65535, 65536} {
				for _, ttl := range []int64{-1 << 63, -1, 0, 1, 2, 1<<30 - 1, 1 << 30, 1<<30 + 1, 1 << 40, 1<<63 - 1} {
					l = append(l, api.Request{Kind: kind, Tag: uint32(len(l)), Id: id, Seat: seat, Ttl: ttl})
				}
			}
		}
	}
	return l
}

// chance answers numbers below a bound, the same ones of the same seed.
func chance(seed uint64) func(below uint64) uint64 {
	x := seed
	return func(below uint64) uint64 {
		x = x*6364136223846793005 + 1442695040888963407
		return (x >> 33) % below
	}
}

// anyRequest answers a request of any kind, mostly one that may be, of few ids and seats.
func anyRequest(next func(below uint64) uint64) api.Request {
	q := api.Request{Kind: api.RequestKind(1 + next(10)), Tag: uint32(next(1 << 30))}
	id, seat, ttl := uint32(next(12)), int(next(7)), int64(next(9))
	switch q.Kind {
	case api.ReqHold:
		q.Seat, q.Ttl = seat, ttl
	case api.ReqConfirm, api.ReqCancel, api.ReqQuery:
		q.Id = id
	case api.ReqReseat:
		q.Id, q.Seat = id, seat
	case api.ReqSeat:
		q.Seat = seat
	case api.ReqTick:
		q.Ttl = ttl / 3
	}
	return q
}

package book_test

import (
	"math"
	"slices"
	"sync"
	"testing"

	"gangway/api"
	"gangway/book"
)

// small is the shape of the chapter's examples.
var small = api.Shape{Seats: 3, Codes: 2, Group: 1}

// made answers a new book.
func made(t *testing.T, s api.Shape) *book.Book {
	t.Helper()
	b, err := book.New(s)
	if err != api.OK || b == nil {
		t.Fatalf("New(%v): %v, %d", s, b, err)
	}
	return b
}

// of answers the book that Of tells.
func of(t *testing.T, s api.Shape, next uint32, clock int64, l ...api.Booking) *book.Book {
	t.Helper()
	b, err := book.Of(s, next, clock, l)
	if err != api.OK || b == nil {
		t.Fatalf("Of(%v, %d, %d, %v): %v, %d", s, next, clock, l, b, err)
	}
	return b
}

func hold(id uint32, seat int, until int64) api.Record {
	return api.Record{Kind: api.RecHold, Id: id, Seat: seat, Until: until}
}

func confirm(id uint32) api.Record {
	return api.Record{Kind: api.RecConfirm, Id: id}
}

func cancel(id uint32) api.Record {
	return api.Record{Kind: api.RecCancel, Id: id}
}

func reseat(id uint32, seat int) api.Record {
	return api.Record{Kind: api.RecReseat, Id: id, Seat: seat}
}

func tick(clock int64) api.Record {
	return api.Record{Kind: api.RecTick, Clock: clock}
}

// wantApply: Apply answers that, and what is refused changes nothing.
func wantApply(t *testing.T, b *book.Book, r api.Record, want api.Errno) {
	t.Helper()
	was := modelOf(b)
	if err := b.Apply(r); err != want {
		t.Fatalf("Apply(%v): %d, want %d", r, err, want)
	}
	if want != api.OK {
		wantAsModel(t, "refused", b, was)
	}
}

// modelOf answers what the book tells of itself.
func modelOf(b *book.Book) *model {
	return &model{b.Shape(), b.Next(), b.Clock(), slices.Collect(b.All())}
}

func wantBook(t *testing.T, b *book.Book, next uint32, clock int64, l ...api.Booking) {
	t.Helper()
	wantAsModel(t, "the book", b, &model{b.Shape(), next, clock, l})
}

func wantDue(t *testing.T, b *book.Book, until int64, held bool) {
	t.Helper()
	if u, h := b.Due(); u != until || h != held {
		t.Errorf("Due: %d, %v, want %d, %v", u, h, until, held)
	}
}

// P17.1 to P17.3: the chapter's first two examples.
func TestExamples(t *testing.T) {
	b := made(t, small)
	wantApply(t, b, hold(1, 0, 10), api.OK)
	wantApply(t, b, hold(1, 0, 10), api.ErrArg)
	wantApply(t, b, hold(3, 1, 10), api.ErrArg)
	wantApply(t, b, hold(2, 0, 10), api.ErrTaken)
	wantApply(t, b, hold(2, 3, 10), api.ErrSeat)
	wantApply(t, b, hold(2, 1, 0), api.ErrRecord)
	wantApply(t, b, hold(2, 2, 20), api.OK)
	wantApply(t, b, hold(3, 1, 9), api.ErrFull)
	wantBook(t, b, 3, 0, api.Booking{Id: 1, Seat: 0, Until: 10}, api.Booking{Id: 2, Seat: 2, Until: 20})
	wantDue(t, b, 10, true)

	wantApply(t, b, confirm(1), api.OK)
	if x, err := b.At(0); x != (api.Booking{Id: 1}) || err != api.OK {
		t.Errorf("At(0): %v, %d", x, err)
	}
	wantApply(t, b, confirm(1), api.OK)
	wantDue(t, b, 20, true)
	wantApply(t, b, reseat(2, 0), api.ErrTaken)
	wantApply(t, b, reseat(2, 2), api.OK)
	wantApply(t, b, reseat(2, 1), api.OK)
	wantApply(t, b, reseat(9, 0), api.ErrUnknown)
	wantApply(t, b, tick(19), api.OK)
	wantBook(t, b, 3, 19, api.Booking{Id: 1}, api.Booking{Id: 2, Seat: 1, Until: 20})
	wantApply(t, b, tick(19), api.ErrPast)
	wantApply(t, b, tick(20), api.OK)
	wantBook(t, b, 3, 20, api.Booking{Id: 1})
	wantDue(t, b, 0, false)
	wantApply(t, b, hold(3, 1, 20), api.ErrPast)
	wantApply(t, b, hold(3, 1, 21), api.OK)
}

// P17.1: the chapter's third example.
func TestOfExamples(t *testing.T) {
	l := []api.Booking{{Id: 1}, {Id: 2, Seat: 2, Until: 6}}
	wantBook(t, of(t, small, 3, 5, l...), 3, 5, l...)
	for _, m := range []model{
		{small, 0, 5, nil},
		{small, 3, -1, nil},
		{small, 3, 5, []api.Booking{{Id: 2}, {Id: 1, Seat: 1}}},
		{small, 3, 5, []api.Booking{{Id: 3}}},
		{small, 3, 5, []api.Booking{{Id: 1, Until: 5}}},
		{small, 3, 5, []api.Booking{{Id: 1, Seat: 1}, {Id: 2, Seat: 1}}},
		{small, 9, 5, []api.Booking{{Id: 1}, {Id: 2, Seat: 1}, {Id: 3, Seat: 2}}},
	} {
		if b, err := book.Of(m.shape, m.next, m.clock, m.l); b != nil || err != api.ErrImage {
			t.Errorf("Of %v: %v, %d", m, b, err)
		}
	}
}

// P17.1: a shape is refused ahead of all else, each of its numbers, one past its limits.
func TestShapes(t *testing.T) {
	for _, s := range []api.Shape{
		{}, {Seats: 0, Codes: 1, Group: 1}, {Seats: 1, Codes: 0, Group: 1}, {Seats: 1, Codes: 1, Group: 0},
		{Seats: -1, Codes: 1, Group: 1}, {Seats: api.MaxSeats + 1, Codes: 1, Group: 1},
		{Seats: 1, Codes: api.MaxCodes + 1, Group: 1}, {Seats: 1, Codes: 1, Group: api.MaxGroup + 1},
		{Seats: math.MaxInt, Codes: math.MaxInt, Group: math.MinInt},
	} {
		if b, err := book.New(s); b != nil || err != api.ErrShape {
			t.Errorf("New(%v): %v, %d", s, b, err)
		}
		for _, next := range []uint32{0, 1} {
			if b, err := book.Of(s, next, -1, []api.Booking{{}}); b != nil || err != api.ErrShape {
				t.Errorf("Of(%v): %v, %d", s, b, err)
			}
		}
	}
	for _, s := range []api.Shape{
		{Seats: 1, Codes: 1, Group: 1},
		{Seats: api.MaxSeats, Codes: 1, Group: api.MaxGroup},
		{Seats: 1, Codes: api.MaxCodes, Group: 1},
		{Seats: api.MaxSeats, Codes: api.MaxCodes, Group: api.MaxGroup},
	} {
		wantAsModel(t, "new", made(t, s), &model{shape: s, next: 1})
		wantAsModel(t, "of nothing", of(t, s, 1, 0), &model{shape: s, next: 1})
	}
}

// P17.1: the greatest clock, next id, seat, Until, and one past each.
func TestOfEdges(t *testing.T) {
	s := api.Shape{Seats: api.MaxSeats, Codes: api.MaxCodes, Group: 1}
	for _, m := range []model{
		{s, math.MaxUint32, 0, []api.Booking{{Id: math.MaxUint32 - 1, Seat: 1023}}},
		{s, math.MaxUint32, api.MaxClock, []api.Booking{{Id: math.MaxUint32 - 1}}},
		{s, 2, api.MaxClock - 1, []api.Booking{{Id: 1, Until: api.MaxClock}}},
		{s, 1, api.MaxClock, nil},
		{s, 1, api.MaxClock + 1, nil},
		{s, 1, math.MaxInt64, nil},
		{s, 1, math.MinInt64, nil},
		{s, math.MaxUint32, 0, []api.Booking{{Id: math.MaxUint32}}},
		{s, 9, 0, []api.Booking{{Id: 1, Seat: 1024}}},
		{s, 9, 0, []api.Booking{{Id: 1, Seat: math.MaxInt}}},
		{s, 9, 0, []api.Booking{{Id: 1, Seat: math.MinInt}}},
		{s, 9, 0, []api.Booking{{Id: 1, Until: api.MaxClock + 1}}},
		{s, 9, 0, []api.Booking{{Id: 1, Until: math.MinInt64}}},
		{s, 9, api.MaxClock, []api.Booking{{Id: 1, Until: api.MaxClock}}},
		{s, 9, 0, []api.Booking{{Id: 1}, {Id: 1, Seat: 1}}},
		{s, 9, 0, []api.Booking{{Id: 1, Seat: 5, Until: 1}, {Id: 3}, {Id: 8, Seat: 2, Until: 1}}},
	} {
		wantOf(t, &m)
	}
}

// P17.1: Of takes as many bookings as there are codes, and as seats, and not one more.
func TestOfMost(t *testing.T) {
	var l []api.Booking
	for seat := range api.MaxSeats {
		l = append(l, api.Booking{Id: uint32(seat)*1000 + 7, Seat: (seat * 5) % api.MaxSeats, Until: int64(seat % 3)})
	}
	for _, codes := range []int{1, 2, 1023, 1024, api.MaxCodes} {
		for _, count := range []int{0, 1, codes - 1, codes, codes + 1, api.MaxSeats} {
			s := api.Shape{Seats: api.MaxSeats, Codes: codes, Group: 1}
			wantOf(t, &model{s, 1 << 30, 0, l[:min(count, len(l))]})
		}
	}
}

// P17.2: the errors of a hold, the first one that is so, in the order in which they are named.
func TestHoldOrder(t *testing.T) {
	full := of(t, small, 9, 5, api.Booking{Id: 3}, api.Booking{Id: 4, Seat: 1, Until: 8})
	wantApply(t, full, hold(0, 3, 5), api.ErrRecord)
	wantApply(t, full, hold(8, 3, 5), api.ErrArg)
	wantApply(t, full, hold(4, 3, 5), api.ErrArg)
	wantApply(t, full, hold(9, 3, 5), api.ErrSeat)
	wantApply(t, full, hold(9, 0, 5), api.ErrPast)
	wantApply(t, full, hold(9, 0, 4), api.ErrPast)
	wantApply(t, full, hold(9, 0, 6), api.ErrTaken)
	wantApply(t, full, hold(9, 1, 6), api.ErrTaken)
	wantApply(t, full, hold(9, 2, 6), api.ErrFull)
	wantApply(t, full, cancel(3), api.OK)
	wantApply(t, full, hold(9, 0, 6), api.OK)
	wantBook(t, full, 10, 5, api.Booking{Id: 4, Seat: 1, Until: 8}, api.Booking{Id: 9, Seat: 0, Until: 6})
}

// P17.2: the last id is given, the one behind it never is; all else is told ahead of that.
func TestLastId(t *testing.T) {
	b := of(t, small, math.MaxUint32-1, 3)
	wantApply(t, b, hold(math.MaxUint32, 0, 5), api.ErrArg)
	wantApply(t, b, hold(math.MaxUint32-1, 0, 5), api.OK)
	for _, r := range []api.Record{hold(math.MaxUint32, 1, 5), hold(math.MaxUint32, 2, api.MaxClock)} {
		wantApply(t, b, r, api.ErrFull)
	}
	wantApply(t, b, hold(1, 1, 5), api.ErrArg)
	wantApply(t, b, hold(math.MaxUint32, 3, 5), api.ErrSeat)
	wantApply(t, b, hold(math.MaxUint32, 0, 3), api.ErrPast)
	wantApply(t, b, hold(math.MaxUint32, 0, 5), api.ErrTaken)
	wantApply(t, b, reseat(math.MaxUint32-1, 2), api.OK)
	wantApply(t, b, cancel(math.MaxUint32-1), api.OK)
	wantApply(t, b, hold(math.MaxUint32, 0, 5), api.ErrFull)
	wantBook(t, b, math.MaxUint32, 3)
}

// P17.2: the errors of a reseat, in their order; its own seat is no one else's; Until stays.
func TestReseat(t *testing.T) {
	b := of(t, small, 4, 0, api.Booking{Id: 1, Seat: 1, Until: 7}, api.Booking{Id: 3, Seat: 2})
	wantApply(t, b, reseat(2, 3), api.ErrUnknown)
	wantApply(t, b, reseat(2, 1), api.ErrUnknown)
	wantApply(t, b, reseat(1, 3), api.ErrSeat)
	wantApply(t, b, reseat(1, 1023), api.ErrSeat)
	wantApply(t, b, reseat(1, 1024), api.ErrRecord)
	wantApply(t, b, reseat(1, -1), api.ErrRecord)
	wantApply(t, b, reseat(1, 2), api.ErrTaken)
	wantApply(t, b, reseat(3, 1), api.ErrTaken)
	wantApply(t, b, reseat(1, 1), api.OK)
	wantApply(t, b, reseat(3, 2), api.OK)
	wantBook(t, b, 4, 0, api.Booking{Id: 1, Seat: 1, Until: 7}, api.Booking{Id: 3, Seat: 2})
	wantApply(t, b, reseat(1, 0), api.OK)
	wantApply(t, b, reseat(3, 1), api.OK) // the seat that the other one left
	wantBook(t, b, 4, 0, api.Booking{Id: 1, Seat: 0, Until: 7}, api.Booking{Id: 3, Seat: 1})
	wantApply(t, b, tick(7), api.OK)
	wantBook(t, b, 4, 7, api.Booking{Id: 3, Seat: 1})
	wantApply(t, b, reseat(3, 0), api.OK) // the seat of the one that has gone
}

// P17.2: what is confirmed stays, however far the clock goes, also confirmed twice; what is cancelled, or has
// gone by a tick, is unknown, and its id is not given again.
func TestConfirmAndCancel(t *testing.T) {
	b := made(t, api.Shape{Seats: 4, Codes: 4, Group: 1})
	for id := range uint32(4) {
		wantApply(t, b, hold(id+1, int(id), 5), api.OK)
	}
	wantApply(t, b, confirm(2), api.OK)
	wantApply(t, b, confirm(2), api.OK)
	wantApply(t, b, cancel(3), api.OK)
	wantApply(t, b, cancel(3), api.ErrUnknown)
	wantApply(t, b, confirm(3), api.ErrUnknown)
	wantApply(t, b, tick(5), api.OK)
	wantBook(t, b, 5, 5, api.Booking{Id: 2, Seat: 1})
	wantApply(t, b, confirm(1), api.ErrUnknown)
	wantApply(t, b, confirm(5), api.ErrUnknown)
	wantApply(t, b, cancel(4), api.ErrUnknown)
	wantApply(t, b, tick(api.MaxClock), api.OK)
	wantBook(t, b, 5, api.MaxClock, api.Booking{Id: 2, Seat: 1})
	wantApply(t, b, tick(api.MaxClock), api.ErrPast)
	wantApply(t, b, tick(api.MaxClock+1), api.ErrRecord)
	wantApply(t, b, hold(5, 0, api.MaxClock), api.ErrPast)
	wantApply(t, b, hold(5, 0, api.MaxClock+1), api.ErrRecord)
	wantApply(t, b, cancel(2), api.OK)
	wantBook(t, b, 5, api.MaxClock)
}

// P17.2, P17.3: ticks one by one, a few at once, and one over all; at one tick several go.
func TestTicks(t *testing.T) {
	untils := []int64{30, 10, 20, 10, api.MaxClock, 20, 11, 10}
	s := api.Shape{Seats: len(untils), Codes: len(untils), Group: 1}
	start := made(t, s)
	for seat, until := range untils {
		wantApply(t, start, hold(uint32(seat)+1, seat, until), api.OK)
	}
	for _, clocks := range [][]int64{
		{9, 10, 11, 12, 19, 20, 29, 30, 31, api.MaxClock - 1, api.MaxClock},
		{1, 15, 25, 40}, {20}, {api.MaxClock - 1, api.MaxClock}, {api.MaxClock},
	} {
		b, m := start.Copy(), modelOf(start)
		for _, clock := range clocks {
			wantStep(t, b, m, tick(clock))
			wantAsModel(t, "behind a tick", b, m)
			wantApply(t, b, tick(clock), api.ErrPast)
			wantApply(t, b, tick(1), api.ErrPast)
		}
	}
	wantDue(t, start, 10, true)
}

// P17.2: whatever records.Check refuses is ErrRecord, whatever the book is.
func TestNoRecord(t *testing.T) {
	b := of(t, small, 2, 5, api.Booking{Id: 1, Until: 9})
	for _, r := range []api.Record{
		{}, {Kind: 6, Id: 1}, {Kind: -1, Id: 1}, {Kind: math.MaxInt}, {Kind: math.MinInt},
		{Kind: api.RecHold, Id: 2, Seat: 1, Until: 9, Clock: 1}, {Kind: api.RecHold, Id: 2, Seat: -1, Until: 9},
		{Kind: api.RecConfirm}, {Kind: api.RecConfirm, Id: 1, Seat: 1}, {Kind: api.RecConfirm, Id: 1, Until: 9},
		{Kind: api.RecCancel}, {Kind: api.RecCancel, Id: 1, Clock: 1},
		{Kind: api.RecReseat, Seat: 1}, {Kind: api.RecReseat, Id: 1, Seat: 1, Until: 9},
		{Kind: api.RecTick}, {Kind: api.RecTick, Clock: -1}, {Kind: api.RecTick, Clock: 6, Id: 1},
	} {
		wantApply(t, b, r, api.ErrRecord)
	}
}

// P17.3, R4: All tells the bookings as they were when it was called; it may be left early and gone through
// again, and the book may be changed in its midst.
func TestAll(t *testing.T) {
	l := []api.Booking{{Id: 2, Seat: 3}, {Id: 5, Seat: 0, Until: 9}, {Id: 6, Seat: 2}, {Id: 40, Seat: 1, Until: 7}}
	b := of(t, api.Shape{Seats: 5, Codes: 5, Group: 1}, 41, 0, l...)
	then := b.All()
	gone := func(most int) []api.Booking {
		var out []api.Booking
		for x := range then {
			if len(out) == most {
				break
			}
			out = append(out, x)
			b.Apply(cancel(x.Id))
			b.Apply(hold(b.Next(), x.Seat, 50))
			b.Apply(confirm(l[3].Id))
		}
		return out
	}
	for _, most := range []int{0, 1, 3, 4, 9, 4} {
		if out := gone(most); !slices.Equal(out, l[:min(most, 4)]) {
			t.Errorf("%d of All: %v", most, out)
		}
	}
	if b.Len() != 4 || b.Next() != 45 {
		t.Errorf("behind All: Len %d, Next %d", b.Len(), b.Next())
	}
}

// P17.4: each thing by which two books are unlike, and the group, by which they are not.
func TestSame(t *testing.T) {
	l := []api.Booking{{Id: 1}, {Id: 2, Seat: 2, Until: 9}}
	b := of(t, small, 3, 5, l...)
	like := []*book.Book{b, b.Copy(), of(t, small, 3, 5, l...), of(t, api.Shape{Seats: 3, Codes: 2, Group: 64}, 3, 5, l...)}
	unlike := []*book.Book{
		of(t, api.Shape{Seats: 4, Codes: 2, Group: 1}, 3, 5, l...),
		of(t, api.Shape{Seats: 3, Codes: 3, Group: 1}, 3, 5, l...),
		of(t, small, 4, 5, l...),
		of(t, small, 3, 6, l...),
		of(t, small, 3, 5, l[0]),
		of(t, small, 3, 5, l[1]),
		of(t, small, 3, 5),
		of(t, small, 3, 5, l[0], api.Booking{Id: 2, Seat: 1, Until: 9}),
		of(t, small, 3, 5, l[0], api.Booking{Id: 2, Seat: 2, Until: 8}),
		of(t, small, 3, 5, l[0], api.Booking{Id: 2, Seat: 2}),
		of(t, small, 3, 5, api.Booking{Id: 1, Seat: 2, Until: 9}, api.Booking{Id: 2}),
		of(t, small, 4, 5, l[0], api.Booking{Id: 3, Seat: 2, Until: 9}),
		nil, {},
	}
	for k, other := range like {
		if !book.Same(b, other) || !book.Same(other, b) {
			t.Errorf("like %d", k)
		}
	}
	for k, other := range unlike {
		if book.Same(b, other) || book.Same(other, b) {
			t.Errorf("unlike %d", k)
		}
	}
}

// P17.4: how a book came to be what it is plays no part.
func TestSameByOtherWays(t *testing.T) {
	b := made(t, small)
	for _, r := range []api.Record{hold(1, 2, 4), hold(2, 1, 9), reseat(2, 0), cancel(1), hold(3, 2, 5), confirm(2), tick(5)} {
		wantApply(t, b, r, api.OK)
	}
	if !book.Same(b, of(t, small, 4, 5, api.Booking{Id: 2})) {
		t.Errorf("not the same: %v", modelOf(b))
	}
}

// R3: the list that is handed to Of is neither changed nor kept.
func TestOfKeepsNothing(t *testing.T) {
	room := []api.Booking{{Id: 1, Until: 9}, {Id: 2, Seat: 1}, {Id: 7, Seat: 7, Until: 7}}
	l := room[:2]
	b := of(t, small, 3, 5, l...)
	wantApply(t, b, confirm(1), api.OK)
	wantApply(t, b, reseat(2, 2), api.OK)
	if !slices.Equal(room, []api.Booking{{Id: 1, Until: 9}, {Id: 2, Seat: 1}, {Id: 7, Seat: 7, Until: 7}}) {
		t.Errorf("changed: %v", room)
	}
	clear(room)
	wantBook(t, b, 3, 5, api.Booking{Id: 1}, api.Booking{Id: 2, Seat: 2})
}

// P17.1, R5: a copy and its book know nothing of one another, whichever is changed.
func TestCopy(t *testing.T) {
	l := []api.Booking{{Id: 1, Until: 9}, {Id: 2, Seat: 2, Until: 7}}
	b := of(t, small, 3, 5, l...)
	c := b.Copy()
	if c == b || c.Shape() != small {
		t.Fatalf("Copy: %v", c.Shape())
	}
	wantApply(t, c, confirm(1), api.OK)
	wantApply(t, c, reseat(2, 1), api.OK)
	wantBook(t, b, 3, 5, l...)
	wantApply(t, b, tick(7), api.OK)
	wantApply(t, b, hold(3, 2, 8), api.OK)
	wantBook(t, c, 3, 5, api.Booking{Id: 1}, api.Booking{Id: 2, Seat: 1, Until: 7})
	wantApply(t, c, tick(7), api.OK)
	wantBook(t, c, 3, 7, api.Booking{Id: 1})
	wantBook(t, b, 4, 7, api.Booking{Id: 1, Until: 9}, api.Booking{Id: 3, Seat: 2, Until: 8})
}

// R4: what is no book: nil, one that was not made, one that was copied by its value.
func TestNone(t *testing.T) {
	first := of(t, small, 3, 5, api.Booking{Id: 1, Until: 9})
	copied := *first
	for what, b := range map[string]*book.Book{"nil": nil, "zero": {}, "copied": &copied} {
		for _, r := range []api.Record{{}, hold(3, 1, 9), confirm(1), cancel(1), reseat(1, 1), tick(6)} {
			if err := b.Apply(r); err != api.ErrNil {
				t.Errorf("%s: Apply(%v): %d", what, r, err)
			}
		}
		for _, n := range []int{-1, 0, 1, 3} {
			if x, err := b.At(n); x != (api.Booking{}) || err != api.ErrNil {
				t.Errorf("%s: At(%d): %v, %d", what, n, x, err)
			}
			if x, err := b.Get(uint32(n)); x != (api.Booking{}) || err != api.ErrNil {
				t.Errorf("%s: Get(%d): %v, %d", what, n, x, err)
			}
		}
		if b.Shape() != (api.Shape{}) || b.Len() != 0 || b.Next() != 0 || b.Clock() != 0 || b.Copy() != nil {
			t.Errorf("%s: %v, Len %d, Next %d, Clock %d, Copy %v", what, b.Shape(), b.Len(), b.Next(), b.Clock(), b.Copy())
		}
		wantDue(t, b, 0, false)
		if all := b.All(); all == nil || len(slices.Collect(all)) != 0 {
			t.Errorf("%s: All", what)
		}
		if book.Same(b, b) || book.Same(b, first) || book.Same(first, b) {
			t.Errorf("%s: Same", what)
		}
	}
	wantBook(t, first, 3, 5, api.Booking{Id: 1, Until: 9})
}

// P17.5: the next id never goes back, and no id is told twice, however often seats are held and left.
func TestIdsRise(t *testing.T) {
	b := made(t, small)
	for id := uint32(1); id <= 5000; id++ {
		for _, wrong := range []uint32{id - 1, id + 1, 1} {
			if wrong != id && b.Apply(hold(wrong, 0, api.MaxClock)) == api.OK {
				t.Fatalf("hold of %d, the next id being %d", wrong, id)
			}
		}
		wantApply(t, b, hold(id, int(id)%3, b.Clock()+2), api.OK)
		if id%2 == 0 {
			wantApply(t, b, cancel(id), api.OK)
		} else {
			wantApply(t, b, tick(b.Clock()+2), api.OK)
		}
		if b.Next() != id+1 || b.Len() != 0 {
			t.Fatalf("behind %d: Next %d, Len %d", id, b.Next(), b.Len())
		}
	}
}

// R5, R7: two books share nothing, and may be used at one time, a copy beside its book too.
func TestTwo(t *testing.T) {
	var wait sync.WaitGroup
	s := api.Shape{Seats: 64, Codes: 64, Group: 1}
	first := made(t, s)
	books := []*book.Book{first}
	for range 7 {
		books = append(books, first.Copy())
	}
	for k, b := range books {
		wait.Go(func() {
			for seat := range 64 {
				b.Apply(hold(uint32(seat)+1, seat, int64(1+(seat+k)%8)))
			}
			b.Apply(tick(7))
		})
	}
	wait.Wait()
	for k, b := range books {
		m := &model{shape: s, next: 65, clock: 7}
		for seat := range 64 {
			if (seat+k)%8 == 7 {
				m.l = append(m.l, api.Booking{Id: uint32(seat) + 1, Seat: seat, Until: 8})
			}
		}
		wantAsModel(t, "one of eight", b, m)
	}
}

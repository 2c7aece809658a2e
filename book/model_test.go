package book_test

import (
	"math"
	"slices"
	"testing"

	"gangway/api"
	"gangway/book"
)

// model is a book as the chapter's words say it: a list of bookings, in the order in which they came, which
// is that of their ids.
type model struct {
	shape api.Shape
	next  uint32
	clock int64
	l     []api.Booking
}

// byId answers where the booking of that id stands, or -1.
func (m *model) byId(id uint32) int {
	return slices.IndexFunc(m.l, func(x api.Booking) bool { return x.Id == id })
}

// bySeat answers where the booking that has the seat stands, or -1.
func (m *model) bySeat(seat int) int {
	return slices.IndexFunc(m.l, func(x api.Booking) bool { return x.Seat == seat })
}

// due answers the least Until of those that are held.
func (m *model) due() (int64, bool) {
	var l []int64
	for _, x := range m.l {
		if x.Until != 0 {
			l = append(l, x.Until)
		}
	}
	if len(l) == 0 {
		return 0, false
	}
	return slices.Min(l), true
}

// recordMayBe is chapter 16's.
func recordMayBe(r api.Record) bool {
	id := r.Id != 0
	seat := r.Seat >= 0 && r.Seat < 1024
	until := r.Until >= 1 && r.Until <= 1<<40
	clock := r.Clock >= 1 && r.Clock <= 1<<40
	switch r.Kind {
	case api.RecHold:
		return id && seat && until && r.Clock == 0
	case api.RecConfirm, api.RecCancel:
		return id && r.Seat == 0 && r.Until == 0 && r.Clock == 0
	case api.RecReseat:
		return id && seat && r.Until == 0 && r.Clock == 0
	case api.RecTick:
		return !id && r.Seat == 0 && r.Until == 0 && clock
	}
	return false
}

func (m *model) apply(r api.Record) api.Errno {
	if !recordMayBe(r) {
		return api.ErrRecord
	}
	switch r.Kind {
	case api.RecHold:
		return m.hold(r)
	case api.RecTick:
		return m.tick(r.Clock)
	}
	at := m.byId(r.Id)
	if at < 0 {
		return api.ErrUnknown
	}
	switch r.Kind {
	case api.RecConfirm:
		m.l[at].Until = 0
	case api.RecCancel:
		m.l = slices.Delete(m.l, at, at+1)
	case api.RecReseat:
		return m.reseat(at, r.Seat)
	}
	return api.OK
}

func (m *model) hold(r api.Record) api.Errno {
	if r.Id != m.next {
		return api.ErrArg
	}
	if r.Seat >= m.shape.Seats {
		return api.ErrSeat
	}
	if r.Until <= m.clock {
		return api.ErrPast
	}
	if m.bySeat(r.Seat) >= 0 {
		return api.ErrTaken
	}
	if len(m.l) == m.shape.Codes || m.next == 1<<32-1 {
		return api.ErrFull
	}
	m.l = append(m.l, api.Booking{Id: r.Id, Seat: r.Seat, Until: r.Until})
	m.next++
	return api.OK
}

func (m *model) reseat(at, seat int) api.Errno {
	if seat >= m.shape.Seats {
		return api.ErrSeat
	}
	if other := m.bySeat(seat); other >= 0 && other != at {
		return api.ErrTaken
	}
	m.l[at].Seat = seat
	return api.OK
}

func (m *model) tick(clock int64) api.Errno {
	if clock <= m.clock {
		return api.ErrPast
	}
	m.clock = clock
	m.l = slices.DeleteFunc(m.l, func(x api.Booking) bool { return x.Until != 0 && x.Until <= clock })
	return api.OK
}

// mayBe tells whether such a book may be, with rising ids.
func (m *model) mayBe() bool {
	if m.next == 0 || m.clock < 0 || m.clock > 1<<40 || len(m.l) > m.shape.Codes {
		return false
	}
	for k, x := range m.l {
		if x.Id < 1 || x.Id >= m.next || x.Seat < 0 || x.Seat >= m.shape.Seats {
			return false
		}
		if x.Until != 0 && (x.Until <= m.clock || x.Until > 1<<40) {
			return false
		}
		for _, ahead := range m.l[:k] {
			if ahead.Id >= x.Id || ahead.Seat == x.Seat {
				return false
			}
		}
	}
	return true
}

func (m *model) copy() *model {
	c := *m
	c.l = slices.Clone(m.l)
	return &c
}

// wantAsModel: each question is answered as the model says, of ids and seats that are there and that are not.
func wantAsModel(t *testing.T, what string, b *book.Book, m *model) {
	t.Helper()
	if b.Shape() != m.shape || b.Len() != len(m.l) || b.Next() != m.next || b.Clock() != m.clock {
		t.Fatalf("%s: %v, Len %d, Next %d, Clock %d; want %v", what, b.Shape(), b.Len(), b.Next(), b.Clock(), m)
	}
	if l := slices.Collect(b.All()); !slices.Equal(l, m.l) {
		t.Fatalf("%s: All: %v, want %v", what, l, m.l)
	}
	until, held := b.Due()
	if u, h := m.due(); until != u || held != h {
		t.Fatalf("%s: Due: %d, %v, want %d, %v", what, until, held, u, h)
	}
	if held && until <= b.Clock() {
		t.Fatalf("%s: Due %d, Clock %d", what, until, b.Clock())
	}
	for seat := -1; seat <= m.shape.Seats; seat++ {
		wantSeat(t, what, b, m, seat)
	}
	for _, id := range []uint32{0, 1, 2, m.next / 2, m.next - 1, m.next, m.next + 1, math.MaxUint32} {
		wantId(t, what, b, m, id)
	}
}

// wantSeat: At is as the model says, and Get of its id is the same.
func wantSeat(t *testing.T, what string, b *book.Book, m *model, seat int) {
	t.Helper()
	x, err := b.At(seat)
	if seat < 0 || seat >= m.shape.Seats {
		if x != (api.Booking{}) || err != api.ErrSeat {
			t.Fatalf("%s: At(%d): %v, %d, want ErrSeat", what, seat, x, err)
		}
		return
	}
	at := m.bySeat(seat)
	if at < 0 {
		if x != (api.Booking{}) || err != api.ErrUnknown {
			t.Fatalf("%s: At(%d): %v, %d, want ErrUnknown", what, seat, x, err)
		}
		return
	}
	if x != m.l[at] || err != api.OK {
		t.Fatalf("%s: At(%d): %v, %d, want %v", what, seat, x, err, m.l[at])
	}
	wantId(t, what, b, m, x.Id)
}

// wantId: Get is as the model says.
func wantId(t *testing.T, what string, b *book.Book, m *model, id uint32) {
	t.Helper()
	x, err := b.Get(id)
	at := m.byId(id)
	if at < 0 && (x != (api.Booking{}) || err != api.ErrUnknown) {
		t.Fatalf("%s: Get(%d): %v, %d, want ErrUnknown", what, id, x, err)
	}
	if at >= 0 && (x != m.l[at] || err != api.OK) {
		t.Fatalf("%s: Get(%d): %v, %d, want %v", what, id, x, err, m.l[at])
	}
}

// wantStep: Apply answers as the model says, and leaves the book as it does.
func wantStep(t *testing.T, b *book.Book, m *model, r api.Record) api.Errno {
	t.Helper()
	want := m.apply(r)
	if err := b.Apply(r); err != want {
		t.Fatalf("Apply(%v): %d, want %d, of %v", r, err, want, m)
	}
	return want
}

// wantBuilt: Of of what a book tells is the same book, and goes on as it does.
func wantBuilt(t *testing.T, b *book.Book, m *model) *book.Book {
	t.Helper()
	again, err := book.Of(b.Shape(), b.Next(), b.Clock(), slices.Collect(b.All()))
	if err != api.OK || !book.Same(b, again) || !book.Same(again, b) || !m.mayBe() {
		t.Fatalf("Of %v: %d", m, err)
	}
	return again
}

// numbers answers a function that tells numbers below a bound, the same ones for one seed.
func numbers(seed uint64) func(below int) int {
	n := seed
	return func(below int) int {
		n = n*6364136223846793005 + 1442695040888963407
		return int(n >> 33 % uint64(below))
	}
}

// anyRecord answers a record that is right often, and off by one, or of another book, often too.
func anyRecord(m *model, chance func(int) int) api.Record {
	id := m.next
	if len(m.l) > 0 && chance(8) > 0 {
		id = m.l[chance(len(m.l))].Id
	}
	if chance(16) == 0 {
		id += uint32(chance(3)) - 1
	}
	seat := chance(m.shape.Seats + 1)
	until := m.clock + int64(chance(12))
	if chance(6) == 0 {
		until = m.clock + 7 // many that are due at one tick
	}
	switch chance(9) {
	case 0:
		return api.Record{Kind: api.RecConfirm, Id: id}
	case 1:
		return api.Record{Kind: api.RecCancel, Id: id}
	case 2, 3:
		return api.Record{Kind: api.RecReseat, Id: id, Seat: seat}
	case 4:
		return api.Record{Kind: api.RecTick, Clock: m.clock + int64(chance(4))}
	case 5:
		return api.Record{Kind: api.RecordKind(chance(7)), Id: uint32(chance(3)), Seat: chance(3), Until: int64(chance(3)), Clock: int64(chance(3))}
	}
	return api.Record{Kind: api.RecHold, Id: m.next + uint32(chance(20)/19), Seat: seat, Until: until}
}

// P17.2, P17.3, P17.5: books of few seats and of many, step by step as the model.
func TestAsModel(t *testing.T) {
	told := map[api.Errno]int{}
	for seed := range 200 {
		chance := numbers(uint64(seed))
		s := api.Shape{Seats: 1 + chance(40), Codes: 1 + chance(40), Group: 1 + chance(64)}
		b, m := made(t, s), &model{shape: s, next: 1}
		for range 200 {
			told[wantStep(t, b, m, anyRecord(m, chance))]++
			wantAsModel(t, "as the model", b, m)
		}
		wantBuilt(t, b, m)
	}
	for _, err := range []api.Errno{api.OK, api.ErrRecord, api.ErrArg, api.ErrSeat, api.ErrPast, api.ErrTaken, api.ErrFull, api.ErrUnknown} {
		if told[err] < 20 {
			t.Errorf("%d was told %d times", err, told[err])
		}
	}
}

// P17.1, P17.5: what Of and Copy answer goes on as the book does, each by itself.
func TestCopiesAsModel(t *testing.T) {
	for seed := range 60 {
		chance := numbers(uint64(seed) + 1000)
		s := api.Shape{Seats: 1 + chance(12), Codes: 1 + chance(12), Group: 1}
		books := []*book.Book{made(t, s)}
		models := []*model{{shape: s, next: 1}}
		for range 300 {
			k := chance(len(books))
			wantStep(t, books[k], models[k], anyRecord(models[k], chance))
			if chance(10) > 0 || len(books) == 6 {
				continue
			}
			other := books[k].Copy()
			if chance(2) == 0 {
				other = wantBuilt(t, books[k], models[k])
			}
			books = append(books, other)
			models = append(models, models[k].copy())
		}
		for k := range books {
			wantAsModel(t, "one of several", books[k], models[k])
			for j := range books {
				want := models[j].next == models[k].next && models[j].clock == models[k].clock && slices.Equal(models[j].l, models[k].l)
				if book.Same(books[j], books[k]) != want {
					t.Fatalf("Same of %v and %v: want %v", models[j], models[k], want)
				}
			}
		}
	}
}

// everyRecord answers records of all kinds, of few ids, seats and ticks.
func everyRecord() []api.Record {
	var l []api.Record
	for id := range uint32(4) {
		l = append(l, api.Record{Kind: api.RecConfirm, Id: id}, api.Record{Kind: api.RecCancel, Id: id})
		for seat := range 3 {
			l = append(l, api.Record{Kind: api.RecReseat, Id: id, Seat: seat})
			for until := range int64(3) {
				l = append(l, api.Record{Kind: api.RecHold, Id: id, Seat: seat, Until: until})
			}
		}
	}
	for clock := range int64(4) {
		l = append(l, api.Record{Kind: api.RecTick, Clock: clock})
	}
	return l
}

// P17.2, P17.5: of a book of two seats every row of records, four deep: each is applied or refused as the
// model says, and what is refused changes nothing.
func TestEveryRow(t *testing.T) {
	every := everyRecord()
	var deeper func(b *book.Book, m *model, depth int)
	deeper = func(b *book.Book, m *model, depth int) {
		for _, r := range every {
			c, n := b.Copy(), m.copy()
			if wantStep(t, c, n, r) != api.OK {
				wantAsModel(t, "refused", c, m)
				continue
			}
			wantAsModel(t, "applied", c, n)
			wantBuilt(t, c, n)
			if depth > 1 {
				deeper(c, n, depth-1)
			}
		}
	}
	for _, codes := range []int{1, 2} {
		s := api.Shape{Seats: 2, Codes: codes, Group: 1}
		deeper(made(t, s), &model{shape: s, next: 1}, 4)
	}
}

// P17.1: Of takes just the books that may be, of every list of up to two bookings with few ids, seats, ticks.
func TestEveryBook(t *testing.T) {
	var every []api.Booking
	for _, id := range []uint32{0, 1, 2, 3} {
		for _, seat := range []int{-1, 0, 1, 2} {
			for _, until := range []int64{-1, 0, 1, 2} {
				every = append(every, api.Booking{Id: id, Seat: seat, Until: until})
			}
		}
	}
	lists := [][]api.Booking{nil}
	for _, x := range every {
		lists = append(lists, []api.Booking{x})
		for _, y := range every {
			lists = append(lists, []api.Booking{x, y})
		}
	}
	for _, l := range lists {
		for codes := 1; codes <= 2; codes++ {
			for next := range uint32(4) {
				for clock := int64(-1); clock <= 2; clock++ {
					wantOf(t, &model{api.Shape{Seats: 2, Codes: codes, Group: 3}, next, clock, l})
				}
			}
		}
	}
}

// wantOf: Of answers the book that the model says, or refuses it.
func wantOf(t *testing.T, m *model) {
	t.Helper()
	b, err := book.Of(m.shape, m.next, m.clock, m.l)
	if !m.mayBe() {
		if b != nil || err != api.ErrImage {
			t.Fatalf("Of %v: %v, %d, want ErrImage", m, b, err)
		}
		return
	}
	if err != api.OK {
		t.Fatalf("Of %v: %d", m, err)
	}
	wantAsModel(t, "Of", b, m)
}

// P17.2, P17.5: as many bookings as there may be at all come and go for a while.
func TestMostAsModel(t *testing.T) {
	chance := numbers(5)
	s := api.Shape{Seats: api.MaxSeats, Codes: api.MaxCodes, Group: api.MaxGroup}
	b, m := made(t, s), &model{shape: s, next: 1}
	fill := func() {
		for seat := range api.MaxSeats {
			wantStep(t, b, m, hold(m.next, seat, m.clock+1+int64(chance(50))))
		}
		wantAsModel(t, "full", b, m)
	}
	for range 3 {
		fill()
		for range 500 {
			wantStep(t, b, m, anyRecord(m, chance))
		}
		wantAsModel(t, "in the midst", b, m)
		wantAsModel(t, "its copy", b.Copy(), m)
		for len(m.l) > 20 && m.clock < 10000 {
			wantStep(t, b, m, tick(m.clock+5))
			for _, x := range m.l[:min(len(m.l), 3)] {
				wantStep(t, b, m, api.Record{Kind: api.RecCancel, Id: x.Id})
			}
		}
		wantAsModel(t, "nearly all gone", b, m)
	}
}

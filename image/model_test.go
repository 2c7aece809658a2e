package image_test

import (
	"bytes"
	"encoding/binary"
	"slices"
	"testing"

	"gangway/api"
	"gangway/book"
	"gangway/geometry"
	"gangway/image"
)

// model is what an image tells, as the chapter's words say it; its numbers may be any that its bytes hold.
type model struct {
	seats uint16
	codes uint32
	next  uint32
	clock uint64
	l     []line
}

// line is a booking of a model.
type line struct {
	id    uint32
	seat  uint16
	until uint64
}

// modelOf answers what the image of the book tells.
func modelOf(b *book.Book) model {
	s := b.Shape()
	m := model{seats: uint16(s.Seats), codes: uint32(s.Codes), next: b.Next(), clock: uint64(b.Clock())}
	for x := range b.All() {
		m.l = append(m.l, line{x.Id, uint16(x.Seat), uint64(x.Until)})
	}
	return m
}

// bytes answers the model's bytes.
func (m model) bytes() []byte {
	b := binary.LittleEndian.AppendUint16(nil, m.seats)
	b = binary.LittleEndian.AppendUint32(b, m.codes)
	b = binary.LittleEndian.AppendUint32(b, m.next)
	b = binary.LittleEndian.AppendUint64(b, m.clock)
	b = binary.LittleEndian.AppendUint16(b, uint16(len(m.l)))
	for _, x := range m.l {
		b = binary.LittleEndian.AppendUint32(b, x.id)
		b = binary.LittleEndian.AppendUint16(b, x.seat)
		b = binary.LittleEndian.AppendUint64(b, x.until)
	}
	return b
}

// read answers the model whose bytes b is, and what is wrong with how many they are.
func read(b []byte) (model, api.Errno) {
	if len(b) < 20 {
		return model{}, api.ErrShort
	}
	little := binary.LittleEndian
	count := int(little.Uint16(b[18:]))
	if len(b) < 20+14*count {
		return model{}, api.ErrShort
	}
	if len(b) > 20+14*count {
		return model{}, api.ErrMore
	}
	m := model{seats: little.Uint16(b), codes: little.Uint32(b[2:]), next: little.Uint32(b[6:]), clock: little.Uint64(b[10:])}
	for b = b[20:]; len(b) > 0; b = b[14:] {
		m.l = append(m.l, line{little.Uint32(b), little.Uint16(b[4:]), little.Uint64(b[6:])})
	}
	return m, api.OK
}

// mayBe tells whether there is a book of which the model tells.
func (m model) mayBe() bool {
	if m.next == 0 || m.clock > api.MaxClock || len(m.l) > int(m.codes) {
		return false
	}
	seen := map[uint16]bool{}
	last := uint32(0)
	for _, x := range m.l {
		if x.id <= last || x.id >= m.next || x.seat >= m.seats || seen[x.seat] {
			return false
		}
		if x.until != 0 && (x.until <= m.clock || x.until > api.MaxClock) {
			return false
		}
		last = x.id
		seen[x.seat] = true
	}
	return true
}

// errorOf tells what Get says of the bytes b.
func errorOf(s api.Shape, b []byte) api.Errno {
	if s.Seats < 1 || s.Seats > 1024 || s.Codes < 1 || s.Codes > 4096 || s.Group < 1 || s.Group > 64 {
		return api.ErrShape
	}
	m, err := read(b)
	if err != api.OK {
		return err
	}
	if int(m.seats) != s.Seats || int(m.codes) != s.Codes || !m.mayBe() {
		return api.ErrImage
	}
	return api.OK
}

// wantGot: Get answers as the model says; it tells whether b was taken, and if so, all that the book tells is
// what b says, and Put makes just b of it.
func wantGot(t *testing.T, s api.Shape, b []byte) bool {
	t.Helper()
	return wantError(t, s, b, errorOf(s, b))
}

// wantError is for one who knows by himself what Get says.
func wantError(t *testing.T, s api.Shape, b []byte, want api.Errno) bool {
	t.Helper()
	got, err := image.Get(s, b)
	if err != want || errorOf(s, b) != want || (got != nil) != (want == api.OK) {
		t.Fatalf("Get(%v, %d bytes, % x ..): %v, %d; want %d, by the model %d", s, len(b), b[:min(len(b), 48)], got, err, want, errorOf(s, b))
	}
	if err != api.OK {
		return false
	}
	wantTold(t, s, got, b)
	return true
}

// wantTold: the book is of the shape s and tells just what b says.
func wantTold(t *testing.T, s api.Shape, got *book.Book, b []byte) {
	t.Helper()
	m, _ := read(b)
	if got.Shape() != s || got.Next() != m.next || got.Clock() != int64(m.clock) || got.Len() != len(m.l) {
		t.Fatalf("Get of %v: %v, Next %d, Clock %d, Len %d", m, got.Shape(), got.Next(), got.Clock(), got.Len())
	}
	l := slices.Collect(got.All())
	for k, x := range m.l {
		want := api.Booking{Id: x.id, Seat: int(x.seat), Until: int64(x.until)}
		if at, err := got.At(want.Seat); l[k] != want || at != want || err != api.OK {
			t.Fatalf("Get of %v: %v, At %v, %d", m, l[k], at, err)
		}
	}
	wantPut(t, got, b)
}

// wantPut: Put answers just these bytes, and not more of them than a slot has room for.
func wantPut(t *testing.T, b *book.Book, want []byte) {
	t.Helper()
	got, err := image.Put(b)
	if err != api.OK || !bytes.Equal(got, want) {
		t.Fatalf("Put: % x, %d, want % x", got, err, want)
	}
	if most, err := geometry.Image(b.Shape()); err != api.OK || len(got) > most || len(got) < 20 {
		t.Fatalf("Put of a book of the shape %v: %d bytes, at most %d", b.Shape(), len(got), most)
	}
}

// wantBack: the book's image is that of the model, and Get of it is the same book, which is told.
func wantBack(t *testing.T, b *book.Book) *book.Book {
	t.Helper()
	was := b.Copy()
	want := modelOf(b).bytes()
	wantPut(t, b, want)
	wantError(t, b.Shape(), want, api.OK)
	again, _ := image.Get(b.Shape(), want)
	if !book.Same(b, again) || !book.Same(again, b) || !book.Same(b, was) {
		t.Fatalf("Get of what Put told of %v is %v", modelOf(b), modelOf(again))
	}
	return again
}

// numbers answers a function that tells numbers below a bound, the same ones for one seed.
func numbers(seed uint64) func(below int) int {
	n := seed
	return func(below int) int {
		n = n*6364136223846793005 + 1442695040888963407
		return int(n >> 33 % uint64(below))
	}
}

// anyRecord answers a record that the book takes more often than not.
func anyRecord(b *book.Book, chance func(int) int) api.Record {
	id := uint32(1 + chance(int(b.Next())))
	seat := chance(b.Shape().Seats)
	switch chance(12) {
	case 0, 1:
		return api.Record{Kind: api.RecConfirm, Id: id}
	case 2:
		return api.Record{Kind: api.RecCancel, Id: id}
	case 3:
		return api.Record{Kind: api.RecReseat, Id: id, Seat: seat}
	case 4:
		return api.Record{Kind: api.RecTick, Clock: b.Clock() + int64(1+chance(3))}
	}
	until := b.Clock() + int64(1)<<chance(41)
	return api.Record{Kind: api.RecHold, Id: b.Next(), Seat: seat, Until: until}
}

// anyBook answers one that came to be by so many records.
func anyBook(t *testing.T, s api.Shape, count int, chance func(int) int) *book.Book {
	t.Helper()
	b := made(t, s)
	for range count {
		b.Apply(anyRecord(b, chance))
	}
	return b
}

// fullBook answers one with as many bookings as there may be, held and confirmed ones.
func fullBook(t *testing.T, s api.Shape) *book.Book {
	t.Helper()
	var l []api.Booking
	for k := range min(s.Seats, s.Codes) {
		x := api.Booking{Id: uint32(k)*4000000 + 1, Seat: s.Seats - 1 - k}
		if k%3 > 0 {
			x.Until = api.MaxClock - int64(k)
		}
		l = append(l, x)
	}
	b, err := book.Of(s, 1<<32-1, 1<<39, l)
	if err != api.OK {
		t.Fatalf("Of(%v): %d", s, err)
	}
	return b
}

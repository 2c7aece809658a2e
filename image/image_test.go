package image_test

import (
	"bytes"
	"math"
	"sync"
	"testing"

	"gangway/api"
	"gangway/book"
	"gangway/geometry"
	"gangway/image"
)

// shape is that of the chapter's examples.
var shape = api.Shape{Seats: 12, Codes: 8, Group: 4}

// freshBytes and twoBytes are the images of the chapter's first two examples.
var (
	freshBytes = []byte{0x0C, 0, 8, 0, 0, 0, 1, 0, 0, 0, 0, 0, 0, 0, 0, 0, 0, 0, 0, 0}
	twoBytes   = []byte{0x0C, 0, 8, 0, 0, 0, 3, 0, 0, 0, 0, 0, 0, 0, 0, 0, 0, 0, 2, 0,
		1, 0, 0, 0, 3, 0, 9, 0, 0, 0, 0, 0, 0, 0,
		2, 0, 0, 0, 0, 0, 0, 0, 0, 0, 0, 0, 0, 0}
)

// made answers a book to which the records were applied.
func made(t *testing.T, s api.Shape, l ...api.Record) *book.Book {
	t.Helper()
	b, err := book.New(s)
	if err != api.OK {
		t.Fatalf("New(%v): %d", s, err)
	}
	for _, r := range l {
		if err := b.Apply(r); err != api.OK {
			t.Fatalf("Apply(%v): %d", r, err)
		}
	}
	return b
}

// twoBook is the book of the chapter's second example.
func twoBook(t *testing.T) *book.Book {
	t.Helper()
	return made(t, shape,
		api.Record{Kind: api.RecHold, Id: 1, Seat: 3, Until: 9},
		api.Record{Kind: api.RecHold, Id: 2, Seat: 0, Until: 7},
		api.Record{Kind: api.RecConfirm, Id: 2})
}

// with answers b with other bytes from at on.
func with(b []byte, at int, other ...byte) []byte {
	c := bytes.Clone(b)
	copy(c[at:], other)
	return c
}

// behind answers b with more bytes behind it.
func behind(b []byte, more ...byte) []byte {
	return append(bytes.Clone(b), more...)
}

// P18.1, P18.3: the chapter's first two examples.
func TestPutExamples(t *testing.T) {
	wantPut(t, made(t, shape), freshBytes)
	wantPut(t, twoBook(t), twoBytes)
	wantBack(t, made(t, shape))
	wantBack(t, twoBook(t))
}

// P18.2: the chapter's third example.
func TestGetExamplesOfAFreshBook(t *testing.T) {
	wantError(t, shape, freshBytes, api.OK)
	wantError(t, api.Shape{Seats: 12, Codes: 8, Group: 9}, freshBytes, api.OK)
	wantError(t, api.Shape{Seats: 11, Codes: 8, Group: 4}, freshBytes, api.ErrImage)
	wantError(t, api.Shape{Seats: 12, Codes: 9, Group: 4}, freshBytes, api.ErrImage)
	wantError(t, api.Shape{Seats: 0, Codes: 8, Group: 4}, freshBytes, api.ErrShape)
	wantError(t, shape, freshBytes[:19], api.ErrShort)
	wantError(t, shape, behind(freshBytes, 0), api.ErrMore)
	wantError(t, shape, with(freshBytes, 18, 1, 0), api.ErrShort)
	wantError(t, shape, with(freshBytes, 6, 0), api.ErrImage)
	if b, _ := image.Get(shape, freshBytes); !book.Same(b, made(t, shape)) {
		t.Error("no fresh book")
	}
}

// P18.2: the chapter's fourth example.
func TestGetExamplesOfTwo(t *testing.T) {
	about := append(append(bytes.Clone(twoBytes[:20]), twoBytes[34:]...), twoBytes[20:34]...)
	wantError(t, shape, twoBytes, api.OK)
	wantError(t, shape, about, api.ErrImage)
	wantError(t, shape, with(twoBytes, 6, 2), api.ErrImage)
	wantError(t, shape, with(twoBytes, 38, 3), api.ErrImage)
	wantError(t, shape, with(twoBytes, 10, 9), api.ErrImage)
	wantError(t, shape, with(twoBytes, 10, 8), api.OK)
}

// P18.1, R4: of what is no book there is no image.
func TestPutOfNone(t *testing.T) {
	copied := *twoBook(t)
	for k, b := range []*book.Book{nil, {}, &copied} {
		if got, err := image.Put(b); len(got) != 0 || err != api.ErrNil {
			t.Errorf("%d: % x, %d", k, got, err)
		}
	}
	none, _ := image.Get(shape, nil)
	if got, err := image.Put(none); len(got) != 0 || err != api.ErrNil {
		t.Errorf("Put of what Get refused: % x, %d", got, err)
	}
}

// P18.2: of several things that are wrong the first one in the promise's order is told.
func TestGetTellsTheFirst(t *testing.T) {
	wrong := with(twoBytes, 0, 11)
	for _, s := range []api.Shape{
		{}, {Seats: 12, Codes: 8}, {Seats: 12, Group: 4}, {Codes: 8, Group: 4}, {Seats: -12, Codes: 8, Group: 4},
		{Seats: 1025, Codes: 8, Group: 4}, {Seats: 12, Codes: 4097, Group: 4}, {Seats: 12, Codes: 8, Group: 65},
		{Seats: 12, Codes: 8, Group: -1}, {Seats: 12 + 1<<16, Codes: 8, Group: 4}, {Seats: 12, Codes: 8 + 1<<32, Group: 4},
		{Seats: math.MinInt, Codes: math.MaxInt, Group: math.MinInt},
	} {
		for _, b := range [][]byte{nil, freshBytes[:19], freshBytes, twoBytes, behind(twoBytes, 0), wrong} {
			wantError(t, s, b, api.ErrShape)
		}
	}
	wantError(t, shape, nil, api.ErrShort)
	wantError(t, shape, []byte{}, api.ErrShort)
	wantError(t, shape, wrong[:19], api.ErrShort)
	wantError(t, shape, wrong[:20], api.ErrShort)
	wantError(t, shape, wrong[:47], api.ErrShort)
	wantError(t, shape, behind(wrong, 0), api.ErrMore)
	wantError(t, shape, behind(wrong, wrong...), api.ErrMore)
	wantError(t, shape, wrong, api.ErrImage)
	wantError(t, shape, with(twoBytes, 18, 3), api.ErrShort)
	wantError(t, shape, with(twoBytes, 18, 1), api.ErrMore)
	wantError(t, shape, with(twoBytes, 18, 0), api.ErrMore)
	wantError(t, shape, with(twoBytes, 19, 1), api.ErrShort)
	wantError(t, shape, with(with(freshBytes, 6, 0), 18, 1), api.ErrShort)
	wantError(t, shape, behind(with(freshBytes, 6, 0), 0), api.ErrMore)
}

// P18.2: each number of the head at its edges, and with each of its bytes that a short look would miss.
func TestGetAtTheEdgesOfTheHead(t *testing.T) {
	two, _ := read(twoBytes)
	fresh, _ := read(freshBytes)
	for _, m := range []model{two, fresh} {
		for _, seats := range []uint16{0, 1, 11, 13, 12 << 8, 12 + 1<<8, math.MaxUint16} {
			m := m
			m.seats = seats
			wantError(t, shape, m.bytes(), api.ErrImage)
		}
		for _, codes := range []uint32{0, 1, 7, 9, 8 << 8, 8 + 1<<8, 8 + 1<<16, 8 + 1<<24, math.MaxUint32} {
			m := m
			m.codes = codes
			wantError(t, shape, m.bytes(), api.ErrImage)
		}
		for _, next := range []uint32{0, 1, 2, 3, 256, 1 << 16, 1 << 24, math.MaxUint32 - 1, math.MaxUint32} {
			m := m
			m.next = next
			wantGot(t, shape, m.bytes())
		}
		for _, clock := range []uint64{0, 1, 8, 9, 1 << 32, api.MaxClock - 1, api.MaxClock, api.MaxClock + 1,
			1 << 48, 1 << 56, 1<<63 - 1, 1 << 63, 1<<63 + 8, 1<<64 - 1} {
			m := m
			m.clock = clock
			wantGot(t, shape, m.bytes())
		}
	}
}

// P18.2: each number of a booking at its edges, as the first of two and as the second.
func TestGetAtTheEdgesOfABooking(t *testing.T) {
	other := line{id: 5, seat: 2, until: 0}
	lists := func(x line) [][]line { return [][]line{{x}, {x, other}, {other, x}} }
	var xs []line
	for _, id := range []uint32{0, 1, 4, 5, 6, 256, 1 << 16, 1 << 24, math.MaxUint32 - 1, math.MaxUint32} {
		for _, seat := range []uint16{0, 1, 2, 11, 12, 256, 258, math.MaxUint16} {
			xs = append(xs, line{id, seat, 9})
		}
	}
	for _, until := range []uint64{0, 1, 6, 7, 8, 9, 256, 1 << 32, api.MaxClock - 1, api.MaxClock, api.MaxClock + 1,
		1 << 48, 1 << 56, 1<<63 - 1, 1 << 63, 1<<63 + 9, 1<<64 - 1} {
		xs = append(xs, line{1, 3, until}, line{6, 0, until})
	}
	taken := 0
	for _, x := range xs {
		for _, l := range lists(x) {
			for _, next := range []uint32{6, 7, 1 << 20, math.MaxUint32} {
				if wantGot(t, shape, model{12, 8, next, 7, l}.bytes()) {
					taken++
				}
			}
		}
	}
	if taken < 20 {
		t.Errorf("only %d were taken", taken)
	}
}

// P18.2: how many bookings there are, up to what two bytes tell; more than the codes or the seats are refused.
func TestGetOfManyBookings(t *testing.T) {
	for _, s := range []api.Shape{{Seats: 12, Codes: 8, Group: 1}, {Seats: 8, Codes: 12, Group: 1},
		{Seats: 1024, Codes: 4096, Group: 1}, {Seats: 1024, Codes: 300, Group: 1}} {
		most := min(s.Seats, s.Codes)
		for _, count := range []int{0, 1, most - 1, most, most + 1, most + 256, 65535} {
			m := model{uint16(s.Seats), uint32(s.Codes), 1 << 20, 0, nil}
			for k := range count {
				m.l = append(m.l, line{uint32(k + 1), uint16(k % 1024), 0})
			}
			want := api.ErrImage
			if count <= most {
				want = api.OK
			}
			b := m.bytes()
			wantError(t, s, b, want)
			wantError(t, s, b[:len(b)-1], api.ErrShort)
			wantError(t, s, behind(b, 0), api.ErrMore)
		}
	}
}

// P18.1, P18.3: as many bookings as there may be make as long an image as chapter 9 says; 14356 bytes at most.
func TestMostBytes(t *testing.T) {
	for _, seats := range []int{1, 2, 255, 256, 257, 1023, 1024} {
		for _, codes := range []int{1, 2, 255, 256, 257, 1024, 4095, 4096} {
			s := api.Shape{Seats: seats, Codes: codes, Group: 1 + seats%64}
			b := fullBook(t, s)
			wantBack(t, b)
			got, _ := image.Put(b)
			if most, err := geometry.Image(s); err != api.OK || len(got) != most {
				t.Errorf("%v: %d bytes, Image %d, %d", s, len(got), most, err)
			}
			wantBack(t, made(t, s))
		}
	}
	if got, _ := image.Put(fullBook(t, api.Shape{Seats: 1024, Codes: 4096, Group: 64})); len(got) != 14356 {
		t.Errorf("the longest has %d bytes", len(got))
	}
}

// P18.1, P18.3: books that came to be by any records; what Get tells goes on as the book does.
func TestThereAndBack(t *testing.T) {
	for seed := range 300 {
		chance := numbers(uint64(seed))
		s := api.Shape{Seats: 1 + chance(30), Codes: 1 + chance(30), Group: 1 + chance(64)}
		b := anyBook(t, s, chance(80), chance)
		again := wantBack(t, b)
		for range 60 {
			r := anyRecord(b, chance)
			if want, err := b.Apply(r), again.Apply(r); err != want || !book.Same(b, again) {
				t.Fatalf("seed %d: Apply(%v): %d, of the book itself %d", seed, r, err, want)
			}
			until, held := b.Due()
			if u, h := again.Due(); u != until || h != held {
				t.Fatalf("seed %d: Due: %d, %v, of the book itself %d, %v", seed, u, h, until, held)
			}
		}
		wantBack(t, again)
	}
}

// P18.2, P18.3: no image is the beginning of another one: each cut-off one is short, each longer one has more.
func TestGetOfEachLength(t *testing.T) {
	for seed := range 20 {
		chance := numbers(uint64(seed) + 500)
		s := api.Shape{Seats: 1 + chance(20), Codes: 1 + chance(20), Group: 1}
		b := modelOf(anyBook(t, s, 60, chance)).bytes()
		for n := range b {
			wantError(t, s, b[:n], api.ErrShort)
		}
		for _, more := range [][]byte{{0}, {255}, make([]byte, 14), b, make([]byte, 1<<20)} {
			wantError(t, s, behind(b, more...), api.ErrMore)
		}
	}
}

// P18.2, P18.3: right bytes of which one is each other one; what is taken is Put's bytes of what is told.
func TestGetOfTurnedBytes(t *testing.T) {
	taken := 0
	for _, right := range [][]byte{freshBytes, twoBytes, modelOf(fullBook(t, shape)).bytes()} {
		for at := range right {
			for value := range 256 {
				if wantGot(t, shape, with(right, at, byte(value))) {
					taken++
				}
			}
		}
	}
	if taken < 1000 {
		t.Errorf("only %d were taken", taken)
	}
}

// P18.2, P18.3: any bytes, with a right head and few great numbers more often than not.
func TestGetOfAnyBytes(t *testing.T) {
	chance := numbers(7)
	taken := 0
	for range 100000 {
		count := chance(4)
		b := make([]byte, 20+14*count)
		copy(b, freshBytes)
		b[6], b[10], b[18] = byte(chance(12)), byte(chance(3)), byte(count)
		for k := range count {
			at := 20 + 14*k
			b[at], b[at+4], b[at+6] = byte(3*k+chance(5)), byte(chance(13)), byte(chance(9))
		}
		for chance(3) == 0 {
			b[chance(len(b))] = byte(chance(256))
		}
		if chance(9) == 0 {
			b = b[:chance(len(b))]
		}
		if wantGot(t, shape, b) {
			taken++
		}
	}
	if taken < 1000 {
		t.Errorf("only %d were taken", taken)
	}
}

// P18.2, P18.3: which group a shape has is not told, and that which Get is given is the book's.
func TestGroups(t *testing.T) {
	var first []byte
	for group := 1; group <= api.MaxGroup; group++ {
		s := api.Shape{Seats: 12, Codes: 8, Group: group}
		b, err := book.Of(s, 9, 3, []api.Booking{{Id: 4, Seat: 11}, {Id: 7, Seat: 2, Until: 5}})
		if err != api.OK {
			t.Fatal(err)
		}
		got, _ := image.Put(b)
		if group == 1 {
			first = got
		}
		wantPut(t, b, first)
		wantError(t, s, first, api.OK)
		if other, _ := image.Get(shape, got); !book.Same(b, other) || other.Shape() != shape {
			t.Errorf("group %d: another book", group)
		}
	}
	wantError(t, api.Shape{Seats: 12, Codes: 8, Group: 0}, first, api.ErrShape)
	wantError(t, api.Shape{Seats: 12, Codes: 8, Group: 65}, first, api.ErrShape)
}

// P18.1, P18.2 (R3, R5): bytes that are handed in stay, with the room behind them, and are not kept; those that
// are answered are new ones; books share nothing.
func TestMemory(t *testing.T) {
	b := twoBook(t)
	room := behind(twoBytes, 7, 7, 7, 7, 7, 7, 7, 7)
	before := bytes.Clone(room)
	for n := range len(room) + 1 {
		image.Get(shape, room[:n])
	}
	if !bytes.Equal(room, before) {
		t.Fatalf("Get has made % x of % x", room, before)
	}
	first, _ := image.Get(shape, room[:len(twoBytes)])
	second, _ := image.Get(shape, room[:len(twoBytes)])
	clear(room)
	wantPut(t, first, twoBytes)
	if err := first.Apply(api.Record{Kind: api.RecCancel, Id: 1}); err != api.OK {
		t.Fatal(err)
	}
	wantPut(t, second, twoBytes)

	out, _ := image.Put(b)
	clear(out[:cap(out)])
	wantPut(t, b, twoBytes)
}

// R6, R7: calls that are made at one time on books of their own answer as alone.
func TestAtOneTime(t *testing.T) {
	var all sync.WaitGroup
	for seed := range uint64(8) {
		all.Go(func() {
			b, err := book.New(shape)
			if err != api.OK {
				t.Error(err)
				return
			}
			chance := numbers(seed)
			for range 300 {
				b.Apply(anyRecord(b, chance))
				out, _ := image.Put(b)
				again, err := image.Get(shape, out)
				if err != api.OK || !bytes.Equal(out, modelOf(b).bytes()) || !book.Same(b, again) {
					t.Errorf("seed %d: % x, %d", seed, out, err)
					return
				}
			}
		})
	}
	all.Wait()
}

package replay_test

import (
	"bytes"
	"iter"
	"math"
	"slices"
	"sync"
	"testing"

	"gangway/api"
	"gangway/book"
	"gangway/records"
	"gangway/replay"
)

// shape and history are those of the chapter's examples.
var (
	shape   = api.Shape{Seats: 2, Codes: 2, Group: 1}
	history = []api.Record{hold(1, 0, 5), confirm(1), tick(9), hold(2, 0, 20), cancel(1)}
)

func hold(id uint32, seat int, until int64) api.Record {
	return api.Record{Kind: api.RecHold, Id: id, Seat: seat, Until: until}
}

func confirm(id uint32) api.Record {
	return api.Record{Kind: api.RecConfirm, Id: id}
}

func cancel(id uint32) api.Record {
	return api.Record{Kind: api.RecCancel, Id: id}
}

func reseat(id uint32, seat int) api.Record {
	return api.Record{Kind: api.RecReseat, Id: id, Seat: seat}
}

func tick(clock int64) api.Record {
	return api.Record{Kind: api.RecTick, Clock: clock}
}

// fresh answers a new book.
func fresh(t *testing.T, s api.Shape) *book.Book {
	t.Helper()
	b, err := book.New(s)
	if err != api.OK || b == nil {
		t.Fatalf("New(%v): %v, %d", s, b, err)
	}
	return b
}

// after answers a new book to which the records were applied.
func after(t *testing.T, s api.Shape, l ...api.Record) *book.Book {
	t.Helper()
	b := fresh(t, s)
	for _, r := range l {
		if err := b.Apply(r); err != api.OK {
			t.Fatalf("Apply(%v): %d", r, err)
		}
	}
	return b
}

// P19.2, P19.3: the chapter's first example.
func TestOfAndStatesExample(t *testing.T) {
	states := []told{
		{shape, 1, 0, nil},
		{shape, 2, 0, []api.Booking{{Id: 1, Seat: 0, Until: 5}}},
		{shape, 2, 0, []api.Booking{{Id: 1}}},
		{shape, 2, 9, []api.Booking{{Id: 1}}},
	}
	wantOf(t, shape, history, states, api.ErrTaken)
	wantStates(t, shape, history, states)
}

// P19.2, P19.4: the chapter's second example.
func TestFindExample(t *testing.T) {
	b := after(t, shape, history[:2]...)
	if k, ok := replay.Find(shape, history, -1, b); k != 2 || !ok {
		t.Errorf("Find from -1: %d, %v", k, ok)
	}
	if k, ok := replay.Find(shape, history, 3, b); k != 0 || ok {
		t.Errorf("Find from 3: %d, %v", k, ok)
	}
	for _, none := range [][]api.Record{nil, {}} {
		wantOf(t, shape, none, []told{{shape, 1, 0, nil}}, api.OK)
		wantStates(t, shape, none, []told{{shape, 1, 0, nil}})
	}
	if b, k, err := replay.Of(api.Shape{Seats: 0, Codes: 2, Group: 1}, history); b != nil || k != 0 || err != api.ErrShape {
		t.Errorf("Of of no seats: %v, %d, %d", b, k, err)
	}
}

// P19.1: the chapter's third example.
func TestRunExample(t *testing.T) {
	frames := append(framesOf(t, history[:1]), api.Frame{Body: []byte{9}})
	wantRun(t, shape, frames, []told{{}, {shape, 2, 0, []api.Booking{{Id: 1, Seat: 0, Until: 5}}}}, api.ErrRecord)
}

// P19.1, R4: what is no book is told ahead of all that the frames say, and without frames too.
func TestRunOverNone(t *testing.T) {
	copied := *fresh(t, shape)
	for k, b := range []*book.Book{nil, {}, &copied} {
		for _, frames := range [][]api.Frame{nil, {}, framesOf(t, history), {{}}, {{Body: []byte{9}}}} {
			if n, err := replay.Run(b, frames); n != 0 || err != api.ErrNil {
				t.Errorf("%d, %v: %d, %d", k, frames, n, err)
			}
		}
	}
	none, _, _ := replay.Of(api.Shape{}, nil)
	if n, err := replay.Run(none, nil); n != 0 || err != api.ErrNil {
		t.Errorf("over what Of refused: %d, %d", n, err)
	}
}

// P19.1: no frames change nothing, of whatever book.
func TestRunOfNoFrames(t *testing.T) {
	for _, b := range []*book.Book{fresh(t, shape), after(t, shape, history[:3]...)} {
		was := tell(b)
		for _, frames := range [][]api.Frame{nil, {}} {
			if k, err := replay.Run(b, frames); k != 0 || err != api.OK || !tell(b).is(was) {
				t.Errorf("%d, %d, %v", k, err, tell(b))
			}
		}
	}
}

// P19.1: a body that says no record ends the run with records.Get's error; what stands ahead of it is applied,
// what stands behind it is not, whole as it may be.
func TestRunEndsAtABody(t *testing.T) {
	long := append([]byte{byte(api.RecConfirm), 1, 0, 0, 0}, make([]byte, 2*api.MaxBody)...)
	for _, c := range []struct {
		body []byte
		want api.Errno
	}{
		{nil, api.ErrShort},
		{[]byte{}, api.ErrShort},
		{[]byte{2, 1, 0}, api.ErrShort},
		{[]byte{0}, api.ErrRecord},
		{[]byte{6, 1, 0, 0, 0}, api.ErrRecord},
		{[]byte{2, 0, 0, 0, 0}, api.ErrRecord},
		{[]byte{2, 0, 0, 0, 0, 7}, api.ErrRecord},
		{[]byte{2, 1, 0, 0, 0, 7}, api.ErrMore},
		{long, api.ErrMore},
	} {
		for at := range 4 {
			frames := framesOf(t, history[:3])
			frames = slices.Insert(frames, at, api.Frame{Epoch: 1, Seq: 1, Body: c.body})
			states, _ := statesOf(t, shape, history[:at])
			wantRun(t, shape, frames, states, c.want)
		}
	}
}

// wrong answers, for each error that Apply tells of a record that may be, one that is refused so behind three
// others, of a book of 3 seats and 2 codes.
func wrong() (api.Shape, []api.Record, map[api.Errno]api.Record) {
	return api.Shape{Seats: 3, Codes: 2, Group: 1}, []api.Record{tick(7), hold(1, 0, 9), hold(2, 2, 8)}, map[api.Errno]api.Record{
		api.ErrArg:     hold(2, 1, 9),
		api.ErrSeat:    hold(3, 3, 9),
		api.ErrPast:    tick(7),
		api.ErrTaken:   reseat(1, 2),
		api.ErrFull:    hold(3, 1, 9),
		api.ErrUnknown: confirm(3),
	}
}

// P19.1, P19.2, P19.3: a record that can't be applied ends the history with Apply's error, whichever it is; a
// record behind it that could be applied is not.
func TestEndsAtARefusedRecord(t *testing.T) {
	s, ahead, refused := wrong()
	for want, r := range refused {
		l := append(slices.Clone(ahead), r, reseat(1, 1), cancel(1), tick(10))
		states, err := statesOf(t, s, l)
		if err != want || len(states) != 4 {
			t.Fatalf("%v: %d states, %d; want %d", r, len(states), err, want)
		}
		wantOf(t, s, l, states, want)
		wantStates(t, s, l, states)
		wantRun(t, s, framesOf(t, l), states, want)
	}
}

// P19.2, P19.3: a record that may not be can't be applied either, at the first place and behind others.
func TestRecordsThatMayNotBe(t *testing.T) {
	for _, r := range []api.Record{
		{}, {Kind: 6, Id: 1}, {Kind: -1, Id: 1}, confirm(0), {Kind: api.RecConfirm, Id: 1, Seat: 1},
		hold(2, api.MaxSeats, 9), hold(2, -1, 9), hold(2, 1, api.MaxClock+1), hold(2, 1, 0), tick(0), tick(math.MinInt64),
	} {
		for at := range 4 {
			l := slices.Insert(slices.Clone(history[:3]), at, r)
			states, _ := statesOf(t, shape, history[:at])
			wantOf(t, shape, l, states, api.ErrRecord)
			wantStates(t, shape, l, states)
			if k, ok := replay.Find(shape, l, 0, after(t, shape, history[:at]...)); k != at || !ok {
				t.Errorf("Find of %v's state %d: %d, %v", l, at, k, ok)
			}
		}
	}
}

// P19.1: the run goes on from what the book is, and a second one goes on from there.
func TestRunGoesOn(t *testing.T) {
	b := after(t, shape, history[0])
	if k, err := replay.Run(b, framesOf(t, history[1:])); k != 2 || err != api.ErrTaken || !tell(b).is(tell(after(t, shape, history[:3]...))) {
		t.Errorf("%d, %d, %v", k, err, tell(b))
	}
	if k, err := replay.Run(b, framesOf(t, history[4:])); k != 1 || err != api.OK || b.Len() != 0 {
		t.Errorf("%d, %d, %v", k, err, tell(b))
	}
	if k, err := replay.Run(b, framesOf(t, history[:1])); k != 0 || err != api.ErrArg || b.Len() != 0 {
		t.Errorf("%d, %d, %v", k, err, tell(b))
	}
}

// P19.1: the frames' epochs and numbers play no part.
func TestRunAsksForBodiesAlone(t *testing.T) {
	states, want := statesOf(t, shape, history)
	for _, n := range []uint64{0, 1, math.MaxUint64} {
		frames := framesOf(t, history)
		for k := range frames {
			frames[k].Epoch, frames[k].Seq = n, n^uint64(k)
		}
		wantRun(t, shape, frames, states, want)
	}
}

// P19.2, P19.3, P19.4: of a shape that may not be there is no book, no state, and none is found; at the limits
// there are.
func TestShapes(t *testing.T) {
	for _, s := range []api.Shape{
		{}, {Seats: 0, Codes: 2, Group: 1}, {Seats: 2, Codes: 0, Group: 1}, {Seats: 2, Codes: 2, Group: 0},
		{Seats: -1, Codes: 2, Group: 1}, {Seats: api.MaxSeats + 1, Codes: 2, Group: 1},
		{Seats: 2, Codes: api.MaxCodes + 1, Group: 1}, {Seats: 2, Codes: 2, Group: api.MaxGroup + 1},
		{Seats: math.MaxInt, Codes: math.MinInt, Group: math.MaxInt},
	} {
		for _, l := range [][]api.Record{nil, history, {{}}} {
			if b, k, err := replay.Of(s, l); b != nil || k != 0 || err != api.ErrShape {
				t.Errorf("Of(%v): %v, %d, %d", s, b, k, err)
			}
			wantStates(t, s, l, nil)
			for _, b := range []*book.Book{nil, fresh(t, shape)} {
				if k, ok := replay.Find(s, l, 0, b); k != 0 || ok {
					t.Errorf("Find(%v): %d, %v", s, k, ok)
				}
			}
		}
	}
	most := api.Shape{Seats: api.MaxSeats, Codes: api.MaxCodes, Group: api.MaxGroup}
	l := []api.Record{hold(1, api.MaxSeats-1, api.MaxClock), tick(api.MaxClock - 1), tick(api.MaxClock), tick(api.MaxClock)}
	states, err := statesOf(t, most, l)
	if len(states) != 4 || err != api.ErrPast {
		t.Fatalf("%d, %d", len(states), err)
	}
	wantOf(t, most, l, states, err)
	wantStates(t, most, l, states)
	wantRun(t, most, framesOf(t, l), states, err)
}

// P19.3, R4: the iterator is never nil; it may be left at each state, is not gone on with then, and tells all of
// them when it is gone through again.
func TestStatesLeftEarly(t *testing.T) {
	if replay.States(api.Shape{}, nil) == nil || replay.States(shape, nil) == nil {
		t.Fatal("no iterator")
	}
	all := replay.States(shape, history)
	for last := range 4 {
		calls := 0
		all(func(k int, b *book.Book) bool {
			if k != calls || b == nil {
				t.Errorf("%d, %v at the place %d", k, b, calls)
			}
			calls++
			return k < last
		})
		if calls != last+1 {
			t.Errorf("left at %d: handed on %d", last, calls)
		}
	}
	count := 0
	for range all {
		count++
	}
	if count != 4 {
		t.Errorf("gone through again: %d", count)
	}
}

// P19.3: what is done to a state, while the states are gone through or behind that, shows in no other one, nor
// when they are gone through again.
func TestStatesAreBooksOfTheirOwn(t *testing.T) {
	l := []api.Record{hold(1, 0, 5), hold(2, 1, 6), confirm(1), reseat(1, 0), tick(6), hold(3, 1, 9)}
	states, err := statesOf(t, shape, l)
	if len(states) != 7 || err != api.OK {
		t.Fatalf("%d, %d", len(states), err)
	}
	spoil := func(b *book.Book) {
		b.Apply(cancel(1))
		b.Apply(reseat(2, 0))
		b.Apply(tick(b.Clock() + 4))
		b.Apply(hold(b.Next(), 1, api.MaxClock))
	}
	all := replay.States(shape, l)
	for range 2 {
		var kept []*book.Book
		for k, b := range all {
			if !tell(b).is(states[k]) {
				t.Fatalf("%d: %v, want %v", k, tell(b), states[k])
			}
			kept = append(kept, b.Copy())
			spoil(b)
		}
		for k, b := range kept {
			if !tell(b).is(states[k]) {
				t.Errorf("%d: %v, want %v", k, tell(b), states[k])
			}
		}
	}
	var kept []*book.Book
	for _, b := range all {
		kept = append(kept, b)
	}
	for k, b := range kept {
		if !tell(b).is(states[k]) {
			t.Errorf("kept, %d: %v, want %v", k, tell(b), states[k])
		}
		spoil(b)
	}
	wantStates(t, shape, l, states)
}

// P19.3: the same iterator gone through twice at once, one within the other and step by step, tells the same.
func TestStatesWithinStates(t *testing.T) {
	states, _ := statesOf(t, shape, history)
	all := replay.States(shape, history)
	for k, outer := range all {
		for j, inner := range all {
			inner.Apply(tick(100))
			if j == k {
				break
			}
		}
		if !tell(outer).is(states[k]) {
			t.Errorf("%d: %v, want %v", k, tell(outer), states[k])
		}
	}
	one, endOne := iter.Pull2(all)
	defer endOne()
	other, endOther := iter.Pull2(all)
	defer endOther()
	for range len(states) + 1 {
		k, a, okA := one()
		j, b, okB := other()
		if k != j || okA != okB || okA && (a == b || !book.Same(a, b)) {
			t.Errorf("%d, %v and %d, %v", k, okA, j, okB)
		}
	}
}

// P19.3, R4: the states tell of the list as it was when States was called.
func TestStatesOfAListThatIsChanged(t *testing.T) {
	states, _ := statesOf(t, shape, history)
	l := slices.Clone(history)
	all := replay.States(shape, l)
	clear(l)
	for range 2 {
		count := 0
		for k, b := range all {
			l[k] = tick(3)
			if !tell(b).is(states[k]) {
				t.Errorf("%d: %v, want %v", k, tell(b), states[k])
			}
			count++
		}
		if count != len(states) {
			t.Errorf("%d, want %d", count, len(states))
		}
	}
}

// P19.4: of states that are the same the least number that is not below from is told.
func TestFindOfStatesThatAreTheSame(t *testing.T) {
	// The states 1 and 2 are the same, and so are 3 and 4; the clock parts 7 from these.
	l := []api.Record{hold(1, 0, 5), reseat(1, 0), confirm(1), confirm(1), reseat(1, 1), tick(2), reseat(1, 0)}
	states, _ := statesOf(t, shape, l)
	for k := range len(l) + 1 {
		wantFind(t, shape, l, states, after(t, shape, l[:k]...))
	}
	back := []api.Record{hold(1, 0, 5), reseat(1, 1), reseat(1, 0), reseat(1, 1), reseat(1, 0)}
	b := after(t, shape, back[0])
	for _, c := range []struct{ from, want int }{
		{math.MinInt, 1}, {-1, 1}, {0, 1}, {1, 1}, {2, 3}, {3, 3}, {4, 5}, {5, 5},
	} {
		if k, ok := replay.Find(shape, back, c.from, b); k != c.want || !ok {
			t.Errorf("from %d: %d, %v; want %d", c.from, k, ok, c.want)
		}
	}
	for _, from := range []int{6, 7, math.MaxInt} {
		if k, ok := replay.Find(shape, back, from, b); k != 0 || ok {
			t.Errorf("from %d: %d, %v", from, k, ok)
		}
	}
}

// P19.4: the state 0 is found, with true beside its 0.
func TestFindOfTheFirstState(t *testing.T) {
	b := fresh(t, shape)
	for _, l := range [][]api.Record{nil, {}, history, {{}}} {
		for _, from := range []int{math.MinInt, -1, 0} {
			if k, ok := replay.Find(shape, l, from, b); k != 0 || !ok {
				t.Errorf("%v from %d: %d, %v", l, from, k, ok)
			}
		}
		if k, ok := replay.Find(shape, l, 1, b); k != 0 || ok {
			t.Errorf("%v from 1: %d, %v", l, k, ok)
		}
	}
}

// P19.4: a book is found whatever its group is; with another number of seats or codes, another booking, clock or
// next id it is not.
func TestFindGoesBySame(t *testing.T) {
	l := history[:1]
	x := api.Booking{Id: 1, Seat: 0, Until: 5}
	for _, c := range []struct {
		m  told
		ok bool
	}{
		{told{shape, 2, 0, []api.Booking{x}}, true},
		{told{api.Shape{Seats: 2, Codes: 2, Group: 64}, 2, 0, []api.Booking{x}}, true},
		{told{api.Shape{Seats: 3, Codes: 2, Group: 1}, 2, 0, []api.Booking{x}}, false},
		{told{api.Shape{Seats: 2, Codes: 3, Group: 1}, 2, 0, []api.Booking{x}}, false},
		{told{shape, 3, 0, []api.Booking{x}}, false},
		{told{shape, 2, 1, []api.Booking{x}}, false},
		{told{shape, 2, 0, nil}, false},
		{told{shape, 2, 0, []api.Booking{{Id: 1, Seat: 1, Until: 5}}}, false},
		{told{shape, 2, 0, []api.Booking{{Id: 1, Seat: 0, Until: 6}}}, false},
	} {
		b, err := book.Of(c.m.shape, c.m.next, c.m.clock, c.m.l)
		if err != api.OK {
			t.Fatal(err)
		}
		states, _ := statesOf(t, shape, l)
		wantFind(t, shape, l, states, b)
		if _, ok := replay.Find(shape, l, 0, b); ok != c.ok {
			t.Errorf("%v: %v", c.m, ok)
		}
	}
}

// P19.4: what only comes about behind a record that can't be applied is not found.
func TestFindBehindARefusedRecord(t *testing.T) {
	b := after(t, shape, append(slices.Clone(history[:3]), history[4])...)
	if k, ok := replay.Find(shape, history, 0, b); k != 0 || ok {
		t.Errorf("%d, %v", k, ok)
	}
	l := append(slices.Clone(history[:3]), history[4])
	if k, ok := replay.Find(shape, l, 0, b); k != 4 || !ok {
		t.Errorf("without it: %d, %v", k, ok)
	}
}

// P19.4, R4: what is no book is no state.
func TestFindOfNone(t *testing.T) {
	copied := *fresh(t, shape)
	for n, b := range []*book.Book{nil, {}, &copied} {
		for _, l := range [][]api.Record{nil, history} {
			for from := -1; from < 6; from++ {
				if k, ok := replay.Find(shape, l, from, b); k != 0 || ok {
					t.Errorf("%d from %d: %d, %v", n, from, k, ok)
				}
			}
		}
	}
}

// P19.1 to P19.5: histories, of which all or not all can be applied, come to what the words say; Of of a list's
// beginning is a state of the list, Run does what Of does, and Find finds each state.
func TestAnyHistory(t *testing.T) {
	for seed := range uint64(60) {
		chance := numbers(seed)
		s := api.Shape{Seats: 1 + chance(5), Codes: 1 + chance(5), Group: 1 + chance(64)}
		l := anyHistory(s, 60, chance)
		if chance(2) == 0 && len(l) > 0 {
			l[chance(len(l))] = anyRecord(s, uint32(1+chance(9)), int64(chance(20)), chance)
		}
		states, want := statesOf(t, s, l)
		wantOf(t, s, l, states, want)
		wantStates(t, s, l, states)
		wantRun(t, s, framesOf(t, l), states, want)
		for k := range states {
			wantOf(t, s, l[:k], states[:k+1], api.OK)
			b, _, _ := replay.Of(s, l[:k])
			wantFind(t, s, l, states, b)
			if at, ok := replay.Find(s, l, k, b); at != k || !ok {
				t.Fatalf("seed %d: the state %d is found at %d, %v", seed, k, at, ok)
			}
			if at, ok := replay.Find(s, l, 0, b); at > k || !ok {
				t.Fatalf("seed %d: the state %d is first found at %d, %v", seed, k, at, ok)
			}
		}
	}
}

// P19.1, P19.2: a history of as many records as there are of one comes to what its records say.
func TestLongHistory(t *testing.T) {
	s := api.Shape{Seats: 200, Codes: 300, Group: 1}
	var l []api.Record
	for round := range api.MaxPieces / 4 {
		id, seat := uint32(round+1), round%s.Seats
		l = append(l, hold(id, seat, int64(round)+50), tick(int64(round)+1), confirm(id), cancel(id))
	}
	b, k, err := replay.Of(s, l)
	want := told{s, uint32(len(l)/4 + 1), int64(len(l) / 4), nil}
	if k != len(l) || err != api.OK || !tell(b).is(want) {
		t.Errorf("Of: %d, %d, %v", k, err, tell(b))
	}
	over := fresh(t, s)
	if k, err := replay.Run(over, framesOf(t, l)); k != len(l) || err != api.OK || !book.Same(b, over) {
		t.Errorf("Run: %d, %d, %v", k, err, tell(over))
	}
	if k, ok := replay.Find(s, l, 0, b); k != len(l) || !ok {
		t.Errorf("Find: %d, %v", k, ok)
	}
}

// R3: lists that are handed in stay as they are, with the room behind their ends, and are not kept.
func TestMemory(t *testing.T) {
	room := append(slices.Clone(history), tick(50), tick(60))
	before := slices.Clone(room)
	b, _, _ := replay.Of(shape, room[:3])
	for range replay.States(shape, room[:3]) {
	}
	replay.Find(shape, room[:3], 0, b)
	if !slices.Equal(room, before) {
		t.Errorf("%v has been made of %v", room, before)
	}
	was := tell(b)
	clear(room)
	if !tell(b).is(was) {
		t.Errorf("Of has kept its list: %v", tell(b))
	}

	frames := framesOf(t, history)
	bodies := make([][]byte, len(frames))
	for k := range frames {
		frames[k].Body = append(frames[k].Body, 7, 7, 7)[:len(frames[k].Body)]
		bodies[k] = bytes.Clone(frames[k].Body[:len(frames[k].Body)+3])
	}
	over := fresh(t, shape)
	replay.Run(over, frames[:3])
	for k, f := range frames {
		if !bytes.Equal(f.Body[:len(f.Body)+3], bodies[k]) || f.Seq != uint64(len(frames)-k)*77 {
			t.Errorf("%v: another frame", f)
		}
		clear(f.Body)
	}
	if !tell(over).is(was) {
		t.Errorf("Run has kept its frames: %v", tell(over))
	}
}

// R5: two books that Of answers share nothing.
func TestOfMakesNewBooks(t *testing.T) {
	a, _, _ := replay.Of(shape, history)
	b, _, _ := replay.Of(shape, history)
	was := tell(b)
	if a == b || a.Apply(cancel(1)) != api.OK || !tell(b).is(was) {
		t.Errorf("%v, %v", tell(a), tell(b))
	}
}

// R6, R7: calls that are made at one time, on books of their own, answer as alone; one list is read by all.
func TestAtOneTime(t *testing.T) {
	s := api.Shape{Seats: 5, Codes: 4, Group: 1}
	l := anyHistory(s, 200, numbers(3))
	frames := framesOf(t, l)
	states, _ := statesOf(t, s, l)
	all := replay.States(s, l)
	var group sync.WaitGroup
	for range 8 {
		group.Go(func() {
			b, _ := book.New(s)
			if k, err := replay.Run(b, frames); k != len(l) || err != api.OK || !tell(b).is(states[k]) {
				t.Errorf("Run: %d, %d", k, err)
			}
			for k, x := range all {
				if !tell(x).is(states[k]) {
					t.Errorf("States: %d", k)
				}
			}
			if k, ok := replay.Find(s, l, len(l), b); k != len(l) || !ok {
				t.Errorf("Find: %d, %v", k, ok)
			}
		})
	}
	group.Wait()
}

// P19.1: whatever the bodies are, the run ends where the first of them says no record or is refused.
func TestRunOfAnyBodies(t *testing.T) {
	s := api.Shape{Seats: 3, Codes: 2, Group: 1}
	chance := numbers(19)
	for range 2000 {
		frames := framesOf(t, anyHistory(s, 8, chance))
		for k := range frames {
			if body := frames[k].Body; chance(4) == 0 {
				body[chance(len(body))] = byte(chance(8))
				frames[k].Body = body[:len(body)-chance(20)/19]
			}
		}
		b, want := fresh(t, s), fresh(t, s)
		count, wantErr := 0, api.OK
		for _, f := range frames {
			r, err := records.Get(f.Body)
			if err == api.OK {
				err = want.Apply(r)
			}
			if err != api.OK {
				wantErr = err
				break
			}
			count++
		}
		if k, err := replay.Run(b, frames); k != count || err != wantErr || !tell(b).is(tell(want)) {
			t.Fatalf("Run of %v: %d, %d, %v; want %d, %d, %v", frames, k, err, tell(b), count, wantErr, tell(want))
		}
	}
}

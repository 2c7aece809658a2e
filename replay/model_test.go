package replay_test

import (
	"slices"
	"testing"

	"gangway/api"
	"gangway/book"
	"gangway/records"
	"gangway/replay"
)

// told is all that a book tells of itself, so that it can be held against another one without book.Same.
type told struct {
	shape api.Shape
	next  uint32
	clock int64
	l     []api.Booking
}

func tell(b *book.Book) told {
	return told{b.Shape(), b.Next(), b.Clock(), slices.Collect(b.All())}
}

func (a told) is(b told) bool {
	return a.shape == b.shape && a.next == b.next && a.clock == b.clock && slices.Equal(a.l, b.l)
}

// isSame is as the words of chapter 17 say it: the group plays no part.
func (a told) isSame(b told) bool {
	a.shape.Group = b.shape.Group
	return a.is(b)
}

// statesOf answers the states of s and l as the chapter's words say them, and the error of the record behind the
// last one. Each state is made from the beginning, so that none can spoil another one.
func statesOf(t *testing.T, s api.Shape, l []api.Record) ([]told, api.Errno) {
	t.Helper()
	var all []told
	for count := range len(l) + 1 {
		b, err := book.New(s)
		if err != api.OK {
			t.Fatalf("New(%v): %d", s, err)
		}
		for _, r := range l[:count] {
			if err := b.Apply(r); err != api.OK {
				return all, err
			}
		}
		all = append(all, tell(b))
	}
	return all, api.OK
}

// framesOf answers frames with the records' bytes, of any epochs and numbers.
func framesOf(t *testing.T, l []api.Record) []api.Frame {
	t.Helper()
	var frames []api.Frame
	for k, r := range l {
		body, err := records.Put(r)
		if err != api.OK {
			t.Fatalf("Put(%v): %d", r, err)
		}
		frames = append(frames, api.Frame{Epoch: uint64(k%3) << 60, Seq: uint64(len(l)-k) * 77, Body: body})
	}
	return frames
}

// wantOf: Of answers the last state, its number and the error.
func wantOf(t *testing.T, s api.Shape, l []api.Record, states []told, want api.Errno) {
	t.Helper()
	b, k, err := replay.Of(s, l)
	if b == nil || k != len(states)-1 || err != want {
		t.Fatalf("Of(%v, %v): %v, %d, %d; want %d, %d", s, l, b, k, err, len(states)-1, want)
	}
	if got := tell(b); !got.is(states[k]) {
		t.Fatalf("Of(%v, %v): %v, want %v", s, l, got, states[k])
	}
}

// wantStates: States hands on just these.
func wantStates(t *testing.T, s api.Shape, l []api.Record, states []told) {
	t.Helper()
	count := 0
	for k, b := range replay.States(s, l) {
		if k != count || k >= len(states) {
			t.Fatalf("States(%v, %v): %d at the place %d of %d", s, l, k, count, len(states))
		}
		if got := tell(b); !got.is(states[k]) {
			t.Fatalf("States(%v, %v), %d: %v, want %v", s, l, k, got, states[k])
		}
		count++
	}
	if count != len(states) {
		t.Fatalf("States(%v, %v): %d, want %d", s, l, count, len(states))
	}
}

// wantFind: from each number on Find answers the first of the states that is as b.
func wantFind(t *testing.T, s api.Shape, l []api.Record, states []told, b *book.Book) {
	t.Helper()
	was := tell(b)
	for from := -2; from < len(l)+3; from++ {
		want, there := 0, false
		for k, x := range states {
			if k >= from && x.isSame(was) {
				want, there = k, true
				break
			}
		}
		if k, ok := replay.Find(s, l, from, b); k != want || ok != there {
			t.Fatalf("Find(%v, %v, %d, %v): %d, %v; want %d, %v", s, l, from, was, k, ok, want, there)
		}
	}
	if !tell(b).is(was) {
		t.Fatalf("Find has made %v of %v", tell(b), was)
	}
}

// wantRun: Run of frames over a new book does what the states say.
func wantRun(t *testing.T, s api.Shape, frames []api.Frame, states []told, want api.Errno) {
	t.Helper()
	b := fresh(t, s)
	k, err := replay.Run(b, frames)
	if k != len(states)-1 || err != want || !tell(b).is(states[len(states)-1]) {
		t.Fatalf("Run of %v: %d, %d, %v; want %d, %d, %v", frames, k, err, tell(b), len(states)-1, want, states[len(states)-1])
	}
}

// numbers answers a function that tells numbers below a bound, the same ones for one seed.
func numbers(seed uint64) func(below int) int {
	n := seed
	return func(below int) int {
		n = n*6364136223846793005 + 1442695040888963407
		return int(n >> 33 % uint64(below))
	}
}

// anyRecord answers one that may be, and that a book with that next id and clock takes more often than not.
func anyRecord(s api.Shape, next uint32, clock int64, chance func(int) int) api.Record {
	id := uint32(1 + chance(int(next)))
	seat := chance(s.Seats + 1)
	switch chance(12) {
	case 0, 1:
		return confirm(id)
	case 2, 3:
		return cancel(id)
	case 4, 5:
		return reseat(id, seat)
	case 6:
		return tick(clock + int64(1+chance(4)))
	}
	return hold(next, seat, clock+int64(1+chance(9)))
}

// anyHistory answers up to count records of which all can be applied.
func anyHistory(s api.Shape, count int, chance func(int) int) []api.Record {
	b, _ := book.New(s)
	var l []api.Record
	for range count {
		r := anyRecord(s, b.Next(), b.Clock(), chance)
		if b.Apply(r) == api.OK {
			l = append(l, r)
		}
	}
	return l
}

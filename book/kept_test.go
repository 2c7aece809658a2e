package book

import (
	"testing"

	"gangway/api"
)

// What is kept is no more than what is held needs: whichever way a hold ends, nothing of it is left in what is
// due. From outside this can't be told.
func TestNothingIsLeftOfHolds(t *testing.T) {
	b, err := New(api.Shape{Seats: 3, Codes: 3, Group: 1})
	if err != api.OK {
		t.Fatal(err)
	}
	for round := range 300 {
		id := b.Next()
		for _, r := range []api.Record{
			{Kind: api.RecHold, Id: id, Seat: 0, Until: int64(2*round + 1)},
			{Kind: api.RecHold, Id: id + 1, Seat: 1, Until: int64(2*round + 2)},
			{Kind: api.RecHold, Id: id + 2, Seat: 2, Until: api.MaxClock},
			{Kind: api.RecCancel, Id: id},
			{Kind: api.RecConfirm, Id: id + 2},
			{Kind: api.RecTick, Clock: int64(2*round + 2)},
			{Kind: api.RecCancel, Id: id + 2},
		} {
			if err := b.Apply(r); err != api.OK {
				t.Fatalf("%v: %d", r, err)
			}
			if len(b.handles) != b.due.Len() {
				t.Fatalf("behind %v: %d handles of %d that are held", r, len(b.handles), b.due.Len())
			}
		}
		if b.due.Len() != 0 || b.ids.Len() != 0 || b.taken.Count() != 0 {
			t.Fatalf("behind all: %d due, %d ids, %d seats", b.due.Len(), b.ids.Len(), b.taken.Count())
		}
	}
}

package records_test

import (
	"bytes"
	"math"
	"sync"
	"testing"

	"gangway/api"
	"gangway/records"
)

func get(b []byte) got {
	r, err := records.Get(b)
	return got{r, err}
}

func wantGot(t *testing.T, b []byte, want got) {
	t.Helper()
	if g := get(b); g != want {
		t.Errorf("Get of %d bytes, %v ..: %v, want %v", len(b), b[:min(len(b), 20)], g, want)
	}
}

// wantRecord: it may be, is written so, and that is read as the record.
func wantRecord(t *testing.T, r api.Record, want []byte) {
	t.Helper()
	b, err := records.Put(r)
	if err != api.OK || !bytes.Equal(b, want) || records.Check(r) != api.OK || records.Size(r.Kind) != len(want) {
		t.Errorf("%v: Put %v, %d, Check %d, Size %d; want %v", r, b, err, records.Check(r), records.Size(r.Kind), want)
	}
	wantGot(t, want, got{record: r})
}

// wantNone: it may not be, and has no bytes.
func wantNone(t *testing.T, r api.Record) {
	t.Helper()
	if b, err := records.Put(r); err != api.ErrRecord || len(b) != 0 || records.Check(r) != api.ErrRecord {
		t.Errorf("%v: Put %v, %d, Check %d; want ErrRecord", r, b, err, records.Check(r))
	}
}

// wantAsModel holds Check and Put of r, and Get of its bytes, against the model.
func wantAsModel(t *testing.T, r api.Record) {
	t.Helper()
	if checkOf(r) != api.OK {
		wantNone(t, r)
		return
	}
	wantRecord(t, r, bytesOf(r))
}

// P16.3, P16.4: the chapter's first example.
func TestPutExamples(t *testing.T) {
	wantRecord(t, api.Record{Kind: api.RecHold, Id: 258, Seat: 3, Until: 5}, []byte{1, 2, 1, 0, 0, 3, 0, 5, 0, 0, 0, 0, 0, 0, 0})
	wantRecord(t, api.Record{Kind: api.RecConfirm, Id: 1}, []byte{2, 1, 0, 0, 0})
	wantRecord(t, api.Record{Kind: api.RecCancel, Id: 1}, []byte{3, 1, 0, 0, 0})
	wantRecord(t, api.Record{Kind: api.RecReseat, Id: 1, Seat: 1023}, []byte{4, 1, 0, 0, 0, 255, 3})
	wantRecord(t, api.Record{Kind: api.RecTick, Clock: 1 << 40}, []byte{5, 0, 0, 0, 0, 0, 1, 0, 0})
}

// P16.1, P16.3: the chapter's second example.
func TestCheckExamples(t *testing.T) {
	wantNone(t, api.Record{Kind: api.RecHold})
	wantNone(t, api.Record{Kind: api.RecHold, Seat: 3, Until: 5})
	wantNone(t, api.Record{Kind: api.RecConfirm, Id: 1, Seat: 2})
	wantNone(t, api.Record{Kind: api.RecTick})
	wantNone(t, api.Record{})
	wantNone(t, api.Record{Id: 1})
	wantNone(t, api.Record{Kind: 6})
	wantNone(t, api.Record{Kind: 6, Id: 1})
}

// P16.4: the chapter's third example.
func TestGetExamples(t *testing.T) {
	wantGot(t, nil, got{err: api.ErrShort})
	wantGot(t, []byte{}, got{err: api.ErrShort})
	wantGot(t, []byte{9}, got{err: api.ErrRecord})
	wantGot(t, []byte{2, 1, 0}, got{err: api.ErrShort})
	wantGot(t, []byte{2, 0, 0, 0, 0, 7}, got{err: api.ErrRecord})
	wantGot(t, []byte{2, 1, 0, 0, 0, 7}, got{err: api.ErrMore})
	wantGot(t, []byte{2, 1, 0, 0, 0}, got{record: api.Record{Kind: api.RecConfirm, Id: 1}})
	wantGot(t, []byte{5, 0, 0, 0, 0, 0, 0, 0, 128}, got{err: api.ErrRecord})
}

// P16.2: the sizes, and none of what is no kind; the longest fits into a frame's body.
func TestSize(t *testing.T) {
	sizes := map[api.RecordKind]int{api.RecHold: 15, api.RecConfirm: 5, api.RecCancel: 5, api.RecReseat: 7, api.RecTick: 9}
	for _, k := range kinds {
		if n := records.Size(k); n != sizes[k] || n > api.MaxBody {
			t.Errorf("Size(%d): %d, want %d", k, n, sizes[k])
		}
	}
	for k := range api.RecordKind(70000) {
		if records.Size(k) != sizes[k] || records.Size(-k) != 0 {
			t.Errorf("Size(%d): %d, Size(%d): %d", k, records.Size(k), -k, records.Size(-k))
		}
	}
}

// P16.1: each field at its limits, one past them, and what a conversion would make right.
func TestCheckAtTheLimits(t *testing.T) {
	wantRecord(t, api.Record{Kind: api.RecHold, Id: 1, Seat: 0, Until: 1}, []byte{1, 1, 0, 0, 0, 0, 0, 1, 0, 0, 0, 0, 0, 0, 0})
	wantRecord(t, api.Record{Kind: api.RecHold, Id: 1<<32 - 1, Seat: api.MaxSeats - 1, Until: api.MaxClock},
		[]byte{1, 255, 255, 255, 255, 255, 3, 0, 0, 0, 0, 0, 1, 0, 0})
	wantRecord(t, api.Record{Kind: api.RecReseat, Id: 1 << 24}, []byte{4, 0, 0, 0, 1, 0, 0})
	wantRecord(t, api.Record{Kind: api.RecTick, Clock: 1}, []byte{5, 1, 0, 0, 0, 0, 0, 0, 0})
	for _, seat := range []int{-1, api.MaxSeats, 65536, 1 << 32, math.MinInt, math.MaxInt} {
		wantNone(t, api.Record{Kind: api.RecHold, Id: 1, Seat: seat, Until: 5})
		wantNone(t, api.Record{Kind: api.RecReseat, Id: 1, Seat: seat})
	}
	for _, tick := range []int64{-1, 0, api.MaxClock + 1, math.MinInt64, math.MaxInt64} {
		wantNone(t, api.Record{Kind: api.RecHold, Id: 1, Seat: 3, Until: tick})
		wantNone(t, api.Record{Kind: api.RecTick, Clock: tick})
	}
	wantNone(t, api.Record{Kind: api.RecConfirm})
	wantNone(t, api.Record{Kind: api.RecCancel})
	wantNone(t, api.Record{Kind: api.RecReseat, Seat: 1})
}

// P16.1: a field that the kind has not must be zero, whatever stands in it.
func TestCheckOfOtherFields(t *testing.T) {
	hold := api.Record{Kind: api.RecHold, Id: 1, Seat: 3, Until: 5}
	confirm := api.Record{Kind: api.RecConfirm, Id: 1}
	cancel := api.Record{Kind: api.RecCancel, Id: 1}
	reseat := api.Record{Kind: api.RecReseat, Id: 1, Seat: 3}
	tick := api.Record{Kind: api.RecTick, Clock: 5}
	withSeat := func(r api.Record, n int) api.Record { r.Seat = n; return r }
	withUntil := func(r api.Record, n int64) api.Record { r.Until = n; return r }
	withClock := func(r api.Record, n int64) api.Record { r.Clock = n; return r }
	for _, n := range []int64{math.MinInt64, -1, 1, 1 << 16, 1 << 32, math.MaxInt64} {
		for _, r := range []api.Record{confirm, cancel, tick} {
			wantNone(t, withSeat(r, int(n)))
		}
		for _, r := range []api.Record{confirm, cancel, reseat, tick} {
			wantNone(t, withUntil(r, n))
		}
		for _, r := range []api.Record{hold, confirm, cancel, reseat} {
			wantNone(t, withClock(r, n))
		}
	}
	for _, id := range ids[1:] {
		wantNone(t, api.Record{Kind: api.RecTick, Id: id, Clock: 5})
	}
}

// P16.1, P16.3, P16.5: every kind with every field's edges, together.
func TestEdgesTogether(t *testing.T) {
	right := 0
	for _, kind := range kinds {
		for _, id := range ids {
			for _, seat := range seats {
				for _, until := range ticks {
					for _, clock := range []int64{math.MinInt64, -1, 0, 1, api.MaxClock, api.MaxClock + 1, math.MaxInt64} {
						r := api.Record{Kind: kind, Id: id, Seat: seat, Until: until, Clock: clock}
						err := records.Check(r)
						if b, put := records.Put(r); err != checkOf(r) || put != err || err != api.OK && len(b) != 0 {
							t.Fatalf("%v: Check %d, Put %v, %d, want %d", r, err, b, put, checkOf(r))
						}
						if err == api.OK {
							right++
							wantRecord(t, r, bytesOf(r))
						}
					}
				}
			}
		}
	}
	if right == 0 {
		t.Error("none was right")
	}
}

// P16.5: Get of Put's bytes is the record.
func TestThereAndBack(t *testing.T) {
	for _, r := range rightRecords() {
		wantRecord(t, r, bytesOf(r))
	}
	next := chance(1)
	for range 50000 {
		wantAsModel(t, anyRecord(next))
	}
	for seat := range 1100 {
		wantAsModel(t, api.Record{Kind: api.RecHold, Id: 7, Seat: seat, Until: 9})
		wantAsModel(t, api.Record{Kind: api.RecReseat, Id: 7, Seat: seat})
	}
}

// P16.4, P16.5: no record's bytes are the beginning of another one's; each cut-off row is short, each longer one
// has more.
func TestGetOfEachLength(t *testing.T) {
	for _, r := range rightRecords() {
		b := bytesOf(r)
		for n := range b {
			wantGot(t, b[:n], got{err: api.ErrShort})
		}
		for _, more := range [][]byte{{0}, {255}, {byte(r.Kind)}, b, make([]byte, 40)} {
			wantGot(t, append(bytes.Clone(b), more...), got{err: api.ErrMore})
		}
	}
	long := make([]byte, 1<<20)
	copy(long, []byte{2, 1})
	wantGot(t, long, got{err: api.ErrMore})
	long[1] = 0
	wantGot(t, long, got{err: api.ErrRecord})
}

// P16.4: each first byte, with any number of bytes behind it.
func TestGetOfEachKind(t *testing.T) {
	for kind := range 256 {
		for n := range 20 {
			for _, fill := range []byte{0, 1, 2, 255} {
				b := append([]byte{byte(kind)}, bytes.Repeat([]byte{fill}, n)...)
				wantGot(t, b, getOf(b))
				if kind == 0 || kind > 5 {
					wantGot(t, b, got{err: api.ErrRecord})
				}
			}
		}
	}
}

// P16.4: of several things that are wrong the first one in the promise's order is told.
func TestGetTellsTheFirst(t *testing.T) {
	for _, x := range []struct {
		b   []byte
		err api.Errno
	}{
		{[]byte{0}, api.ErrRecord}, // no kind, ahead of too few bytes
		{[]byte{6, 1, 0, 0, 0, 0, 0, 0, 0, 0, 0, 0, 0, 0, 0, 0, 0}, api.ErrRecord}, // no kind, ahead of too many
		{[]byte{255}, api.ErrRecord},
		{[]byte{2, 0, 0, 0}, api.ErrShort},                                 // too few, ahead of an id that is 0
		{[]byte{4, 1, 0, 0, 0, 255}, api.ErrShort},                         // too few, ahead of a seat that is too great
		{[]byte{4, 0, 0, 0, 0, 255}, api.ErrShort},                         // too few, ahead of an id that is 0
		{[]byte{1, 0, 0, 0, 0, 255, 255, 0, 0, 0}, api.ErrShort},           // too few, ahead of all
		{[]byte{3, 0, 0, 0, 0, 1}, api.ErrRecord},                          // an id that is 0, ahead of too many
		{[]byte{4, 1, 0, 0, 0, 0, 4, 0}, api.ErrRecord},                    // a seat that is too great, ahead of too many
		{[]byte{4, 1, 0, 0, 0, 255, 255}, api.ErrRecord},                   // the greatest seat of two bytes
		{[]byte{5, 0, 0, 0, 0, 0, 0, 0, 0, 0}, api.ErrRecord},              // no tick, ahead of too many
		{[]byte{5, 1, 0, 0, 0, 0, 1, 0, 0, 0}, api.ErrRecord},              // a tick that is too great, ahead of too many
		{[]byte{5, 255, 255, 255, 255, 255, 255, 255, 255}, api.ErrRecord}, // not the tick -1
		{[]byte{5, 1, 0, 0, 0, 0, 0, 0, 128}, api.ErrRecord},
		{[]byte{1, 1, 0, 0, 0, 3, 0, 0, 0, 0, 0, 0, 0, 0, 0}, api.ErrRecord},   // until 0
		{[]byte{1, 1, 0, 0, 0, 3, 0, 5, 0, 0, 0, 0, 0, 0, 128}, api.ErrRecord}, // until below 0, if it were signed
		{[]byte{1, 1, 0, 0, 0, 3, 0, 1, 0, 0, 0, 0, 1, 0, 0}, api.ErrRecord},   // until one past the last tick
	} {
		wantGot(t, x.b, got{err: x.err})
		wantGot(t, x.b, getOf(x.b))
	}
}

// P16.4, P16.5: right bytes of which one is each other one; what is taken is Put's bytes of what is told.
func TestGetOfTurnedBytes(t *testing.T) {
	for _, r := range []api.Record{{Kind: api.RecHold, Id: 1, Seat: 1023, Until: 1}, {Kind: api.RecHold, Id: 258, Seat: 3, Until: 1 << 40},
		{Kind: api.RecConfirm, Id: 1}, {Kind: api.RecCancel, Id: 1 << 31}, {Kind: api.RecReseat, Id: 256, Seat: 512},
		{Kind: api.RecTick, Clock: 1}, {Kind: api.RecTick, Clock: 1 << 40}} {
		right := bytesOf(r)
		for at := range right {
			for value := range 256 {
				b := bytes.Clone(right)
				b[at] = byte(value)
				wantTaken(t, b)
			}
		}
	}
}

// P16.4, P16.5: any bytes, of kinds that there are more often than not.
func TestGetOfAnyBytes(t *testing.T) {
	next := chance(2)
	taken := 0
	for range 100000 {
		b := make([]byte, next(18))
		for at := range b {
			b[at] = byte(next(256) >> next(12))
		}
		if len(b) > 0 && next(8) > 0 {
			b[0] = byte(next(7))
		}
		if wantTaken(t, b) {
			taken++
		}
	}
	if taken < 1000 {
		t.Errorf("only %d were taken", taken)
	}
}

// wantTaken holds Get of b against the model; it tells whether b was taken, and if so, Put makes just b of it.
func wantTaken(t *testing.T, b []byte) bool {
	t.Helper()
	g := get(b)
	wantGot(t, b, getOf(b))
	if g.err != api.OK {
		return false
	}
	if again, err := records.Put(g.record); err != api.OK || !bytes.Equal(again, b) {
		t.Errorf("Get of %v: %v, of which Put makes %v, %d", b, g, again, err)
	}
	return true
}

// P16.3, P16.4 (R3): bytes that are handed in stay, with the room behind them; those that are answered are new ones.
func TestMemory(t *testing.T) {
	for _, r := range rightRecords() {
		right := bytesOf(r)
		room := append(bytes.Clone(right), 7, 7, 7, 7, 7, 7, 7, 7)
		before := bytes.Clone(room)
		for n := range len(room) + 1 {
			get(room[:n])
		}
		if !bytes.Equal(room, before) {
			t.Fatalf("Get has made %v of %v", room, before)
		}
		first, _ := records.Put(r)
		second, _ := records.Put(r)
		clear(first[:cap(first)])
		if third, _ := records.Put(r); !bytes.Equal(second, right) || !bytes.Equal(third, right) {
			t.Fatalf("Put of %v: %v, %v behind a write", r, second, third)
		}
	}
}

// P16.1 to P16.4 (R6, R7): calls that are made at one time answer as alone.
func TestAtOneTime(t *testing.T) {
	var all sync.WaitGroup
	for seed := range uint64(8) {
		all.Go(func() {
			next := chance(seed)
			for range 2000 {
				wantAsModel(t, anyRecord(next))
			}
		})
	}
	all.Wait()
}

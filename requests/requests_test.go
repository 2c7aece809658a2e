package requests_test

import (
	"bytes"
	"math"
	"sync"
	"testing"

	"gangway/api"
	"gangway/requests"
)

func get(b []byte) got {
	q, err := requests.Get(b)
	return got{q, err}
}

func wantGot(t *testing.T, b []byte, want got) {
	t.Helper()
	if g := get(b); g != want {
		t.Errorf("Get of %d bytes, %v ..: %v, want %v", len(b), b[:min(len(b), 20)], g, want)
	}
}

// wantRequest: it may be, is written so, and that is read as the request.
func wantRequest(t *testing.T, q api.Request, want []byte) {
	t.Helper()
	b, err := requests.Put(q)
	if err != api.OK || !bytes.Equal(b, want) || requests.Check(q) != api.OK {
		t.Errorf("%v: Put %v, %d, Check %d; want %v", q, b, err, requests.Check(q), want)
	}
	wantGot(t, want, got{request: q})
}

// wantNone: it may not be, and has no bytes.
func wantNone(t *testing.T, q api.Request) {
	t.Helper()
	if b, err := requests.Put(q); err != api.ErrRequest || len(b) != 0 || requests.Check(q) != api.ErrRequest {
		t.Errorf("%v: Put %v, %d, Check %d; want ErrRequest", q, b, err, requests.Check(q))
	}
}

// wantAsModel holds Check and Put of q, and Get of its bytes, against the model.
func wantAsModel(t *testing.T, q api.Request) {
	t.Helper()
	if checkOf(q) != api.OK {
		wantNone(t, q)
		return
	}
	wantRequest(t, q, bytesOf(q))
}

// P20.2: the chapter's first example.
func TestPutExamples(t *testing.T) {
	wantRequest(t, api.Request{Kind: api.ReqHold, Tag: 1, Seat: 2, Ttl: 300}, []byte{1, 1, 0, 0, 0, 2, 0, 44, 1, 0, 0, 0, 0, 0, 0})
	wantRequest(t, api.Request{Kind: api.ReqCount, Tag: 1<<32 - 1}, []byte{10, 255, 255, 255, 255})
	wantRequest(t, api.Request{Kind: api.ReqReseat, Id: 258, Seat: 1}, []byte{4, 0, 0, 0, 0, 2, 1, 0, 0, 1, 0})
}

// P20.2: the bytes of each kind, with numbers of unlike bytes.
func TestPutOfEachKind(t *testing.T) {
	const tag = 0x84030201
	wantRequest(t, api.Request{Kind: api.ReqHold, Tag: tag, Seat: 0xF605, Ttl: 0x0E0D0C0B0A090807},
		[]byte{1, 1, 2, 3, 0x84, 5, 0xF6, 7, 8, 9, 10, 11, 12, 13, 14})
	wantRequest(t, api.Request{Kind: api.ReqConfirm, Tag: tag, Id: 0x98070605}, []byte{2, 1, 2, 3, 0x84, 5, 6, 7, 0x98})
	wantRequest(t, api.Request{Kind: api.ReqCancel, Tag: tag, Id: 0x98070605}, []byte{3, 1, 2, 3, 0x84, 5, 6, 7, 0x98})
	wantRequest(t, api.Request{Kind: api.ReqReseat, Tag: tag, Id: 0x98070605, Seat: 0xFA09}, []byte{4, 1, 2, 3, 0x84, 5, 6, 7, 0x98, 9, 0xFA})
	wantRequest(t, api.Request{Kind: api.ReqQuery, Tag: tag, Id: 0x98070605}, []byte{5, 1, 2, 3, 0x84, 5, 6, 7, 0x98})
	wantRequest(t, api.Request{Kind: api.ReqSeat, Tag: tag, Seat: 0xF605}, []byte{6, 1, 2, 3, 0x84, 5, 0xF6})
	wantRequest(t, api.Request{Kind: api.ReqTick, Tag: tag, Ttl: 0x0C0B0A0908070605}, []byte{7, 1, 2, 3, 0x84, 5, 6, 7, 8, 9, 10, 11, 12})
	wantRequest(t, api.Request{Kind: api.ReqFlush, Tag: tag}, []byte{8, 1, 2, 3, 0x84})
	wantRequest(t, api.Request{Kind: api.ReqSave, Tag: tag}, []byte{9, 1, 2, 3, 0x84})
	wantRequest(t, api.Request{Kind: api.ReqCount, Tag: tag}, []byte{10, 1, 2, 3, 0x84})
}

// P20.1, P20.2: the chapter's second example.
func TestRefusedExamples(t *testing.T) {
	for _, q := range []api.Request{{}, {Kind: 11}, {Kind: api.ReqFlush, Id: 1}, {Kind: api.ReqHold, Seat: -1},
		{Kind: api.ReqSeat, Seat: 65536}, {Kind: api.ReqTick, Ttl: -1}, {Kind: api.ReqQuery, Seat: 1}} {
		wantNone(t, q)
	}
	for _, b := range [][]byte{nil, {}, {10, 0, 0, 0}, {10, 0, 0, 0, 0, 0}, {0, 0, 0, 0, 0},
		{7, 0, 0, 0, 0, 255, 255, 255, 255, 255, 255, 255, 255}} {
		wantGot(t, b, refused)
	}
}

// P20.1: the five kinds of changes (the chapter's third example), and no others, whatever number is asked for.
func TestChanges(t *testing.T) {
	changes := map[api.RequestKind]bool{api.ReqHold: true, api.ReqConfirm: true, api.ReqCancel: true, api.ReqReseat: true, api.ReqTick: true}
	want := func(k api.RequestKind) {
		if requests.Changes(k) != changes[k] {
			t.Errorf("Changes(%d): %v", k, !changes[k])
		}
	}
	for _, k := range kinds {
		want(k)
	}
	for k := range api.RequestKind(70000) {
		want(k)
		want(-k)
		want(k + 1<<32)
	}
}

// P20.1: each field at its limits, one past them, and what a conversion would make right.
func TestCheckAtTheLimits(t *testing.T) {
	wantRequest(t, api.Request{Kind: api.ReqHold}, []byte{1, 0, 0, 0, 0, 0, 0, 0, 0, 0, 0, 0, 0, 0, 0})
	wantRequest(t, api.Request{Kind: api.ReqHold, Tag: 1<<32 - 1, Seat: 65535, Ttl: math.MaxInt64},
		[]byte{1, 255, 255, 255, 255, 255, 255, 255, 255, 255, 255, 255, 255, 255, 127})
	wantRequest(t, api.Request{Kind: api.ReqReseat, Id: 1<<32 - 1, Seat: 65535}, []byte{4, 0, 0, 0, 0, 255, 255, 255, 255, 255, 255})
	wantRequest(t, api.Request{Kind: api.ReqSeat}, []byte{6, 0, 0, 0, 0, 0, 0})
	wantRequest(t, api.Request{Kind: api.ReqTick}, []byte{7, 0, 0, 0, 0, 0, 0, 0, 0, 0, 0, 0, 0})
	wantRequest(t, api.Request{Kind: api.ReqConfirm}, []byte{2, 0, 0, 0, 0, 0, 0, 0, 0})
	for _, seat := range []int{-1, -65535, 65536, 65537, 1 << 32, math.MinInt, math.MaxInt} {
		wantNone(t, api.Request{Kind: api.ReqHold, Seat: seat, Ttl: 5})
		wantNone(t, api.Request{Kind: api.ReqReseat, Id: 1, Seat: seat})
		wantNone(t, api.Request{Kind: api.ReqSeat, Seat: seat})
	}
	for _, ttl := range []int64{-1, -1 << 32, math.MinInt64, math.MinInt64 + 1} {
		wantNone(t, api.Request{Kind: api.ReqHold, Seat: 3, Ttl: ttl})
		wantNone(t, api.Request{Kind: api.ReqTick, Ttl: ttl})
	}
}

// P20.1: a field that the kind has not must be 0, whatever stands in it.
func TestCheckOfOtherFields(t *testing.T) {
	withId := func(k api.RequestKind, id uint32) api.Request { return api.Request{Kind: k, Tag: 9, Id: id} }
	withSeat := func(k api.RequestKind, n int64) api.Request { return api.Request{Kind: k, Tag: 9, Seat: int(n)} }
	withTtl := func(k api.RequestKind, n int64) api.Request { return api.Request{Kind: k, Tag: 9, Ttl: n} }
	for _, k := range []api.RequestKind{api.ReqHold, api.ReqSeat, api.ReqTick, api.ReqFlush, api.ReqSave, api.ReqCount} {
		for _, id := range ids[1:] {
			wantNone(t, withId(k, id))
		}
	}
	for _, n := range []int64{math.MinInt64, -1, 1, 5, 1 << 16, 1 << 32, math.MaxInt64} {
		for _, k := range []api.RequestKind{api.ReqConfirm, api.ReqCancel, api.ReqQuery, api.ReqTick, api.ReqFlush, api.ReqSave, api.ReqCount} {
			wantNone(t, withSeat(k, n))
		}
		for _, k := range []api.RequestKind{api.ReqConfirm, api.ReqCancel, api.ReqReseat, api.ReqQuery, api.ReqSeat, api.ReqFlush, api.ReqSave,
			api.ReqCount} {
			wantNone(t, withTtl(k, n))
		}
	}
}

// P20.1, P20.2, P20.3: every kind with every field's edges, together.
func TestEdgesTogether(t *testing.T) {
	right := 0
	for _, kind := range kinds {
		for _, tag := range tags {
			for _, id := range ids {
				for _, seat := range seats {
					for _, ttl := range ticks {
						q := api.Request{Kind: kind, Tag: tag, Id: id, Seat: seat, Ttl: ttl}
						wantAsModel(t, q)
						if checkOf(q) == api.OK {
							right++
						}
					}
				}
			}
		}
	}
	if right == 0 {
		t.Error("none was right")
	}
}

// P20.3: Get of Put's bytes is the request.
func TestThereAndBack(t *testing.T) {
	for _, q := range rightRequests() {
		wantRequest(t, q, bytesOf(q))
	}
	next := chance(1)
	for range 50000 {
		wantAsModel(t, anyRequest(next))
	}
	for seat := range 65600 {
		wantAsModel(t, api.Request{Kind: api.ReqSeat, Tag: 7, Seat: seat})
	}
}

// P20.2, P20.3: no request's bytes are the beginning of another one's; of each cut-off row and of each longer one
// there is none.
func TestGetOfEachLength(t *testing.T) {
	for _, q := range rightRequests() {
		b := bytesOf(q)
		for n := range b {
			wantGot(t, b[:n], refused)
		}
		for _, more := range [][]byte{{0}, {255}, {byte(q.Kind)}, {0, 0}, {0, 0, 0, 0}, b, make([]byte, 40)} {
			wantGot(t, append(bytes.Clone(b), more...), refused)
		}
	}
	wantGot(t, make([]byte, 1<<20), refused)
	wantGot(t, bytes.Repeat([]byte{1}, 1<<20), refused)
}

// P20.2: each first byte, with any number of bytes behind it.
func TestGetOfEachKind(t *testing.T) {
	for kind := range 256 {
		for n := range 70 {
			for _, fill := range []byte{0, 1, 127, 128, 255} {
				b := append([]byte{byte(kind)}, bytes.Repeat([]byte{fill}, n)...)
				wantGot(t, b, getOf(b))
				if kind == 0 || kind > 10 {
					wantGot(t, b, refused)
				}
			}
		}
	}
}

// P20.2: Ttl from 2^63 on, of both kinds that have it.
func TestGetOfTtlBelowZero(t *testing.T) {
	for _, ahead := range [][]byte{{7, 1, 0, 0, 0}, {1, 1, 0, 0, 0, 2, 0}} {
		for high := range 256 {
			for _, low := range []byte{0, 1, 255} {
				b := append(bytes.Clone(ahead), low, low, low, low, low, low, low, byte(high))
				wantGot(t, b, getOf(b))
				if high > 127 {
					wantGot(t, b, refused)
				}
			}
		}
	}
}

// P20.2, P20.3: right bytes of which one is each other one; what is taken is Put's bytes of what is told.
func TestGetOfTurnedBytes(t *testing.T) {
	for _, q := range []api.Request{{Kind: api.ReqHold, Tag: 1, Seat: 2, Ttl: 300}, {Kind: api.ReqHold, Seat: 65535, Ttl: math.MaxInt64},
		{Kind: api.ReqConfirm, Tag: 256, Id: 1}, {Kind: api.ReqCancel, Id: 1 << 31}, {Kind: api.ReqReseat, Id: 256, Seat: 512},
		{Kind: api.ReqQuery, Id: 1<<32 - 1}, {Kind: api.ReqSeat, Tag: 1<<32 - 1, Seat: 1}, {Kind: api.ReqTick, Ttl: 1},
		{Kind: api.ReqFlush}, {Kind: api.ReqSave, Tag: 5}, {Kind: api.ReqCount, Tag: 1 << 24}} {
		right := bytesOf(q)
		for at := range right {
			for value := range 256 {
				b := bytes.Clone(right)
				b[at] = byte(value)
				wantTaken(t, b)
			}
		}
	}
}

// P20.2, P20.3: any bytes, of kinds and lengths that there are more often than not.
func TestGetOfAnyBytes(t *testing.T) {
	next := chance(2)
	taken := 0
	for range 100000 {
		kind := api.RequestKind(next(12))
		b := make([]byte, 1+4+len(layouts[kind]))
		for at := range b {
			b[at] = byte(next(256) >> next(12))
		}
		b[0] = byte(kind)
		if next(4) == 0 {
			b = append(b, 0, 1, 2)[:next(uint64(len(b)+3))]
		}
		if wantTaken(t, b) {
			taken++
		}
	}
	if taken < 1000 {
		t.Errorf("only %d were taken", taken)
	}
}

// wantTaken holds Get of b against the model; it tells whether b was taken, and if so, Put makes just b of it.
func wantTaken(t *testing.T, b []byte) bool {
	t.Helper()
	g := get(b)
	wantGot(t, b, getOf(b))
	if g.err != api.OK {
		return false
	}
	if again, err := requests.Put(g.request); err != api.OK || !bytes.Equal(again, b) {
		t.Errorf("Get of %v: %v, of which Put makes %v, %d", b, g, again, err)
	}
	return true
}

// P20.2 (R3): bytes that are handed in stay, with the room behind them; those that are answered are new ones.
func TestMemory(t *testing.T) {
	for _, q := range rightRequests() {
		right := bytesOf(q)
		room := append(bytes.Clone(right), 7, 7, 7, 7, 7, 7, 7, 7)
		before := bytes.Clone(room)
		for n := range len(room) + 1 {
			get(room[:n])
		}
		if !bytes.Equal(room, before) {
			t.Fatalf("Get has made %v of %v", room, before)
		}
		first, _ := requests.Put(q)
		second, _ := requests.Put(q)
		clear(first[:cap(first)])
		if third, _ := requests.Put(q); !bytes.Equal(second, right) || !bytes.Equal(third, right) {
			t.Fatalf("Put of %v: %v, %v behind a write", q, second, third)
		}
	}
}

// P20.1, P20.2 (R6, R7): calls that are made at one time answer as alone.
func TestAtOneTime(t *testing.T) {
	var all sync.WaitGroup
	for seed := range uint64(8) {
		all.Go(func() {
			next := chance(seed)
			for range 2000 {
				wantAsModel(t, anyRequest(next))
			}
		})
	}
	all.Wait()
}

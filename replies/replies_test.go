package replies_test

import (
	"bytes"
	"math"
	"slices"
	"sync"
	"testing"

	"gangway/api"
	"gangway/replies"
)

func get(b []byte) got {
	r, err := replies.Get(b)
	return got{r, err}
}

func wantGot(t *testing.T, b []byte, want got) {
	t.Helper()
	if g := get(b); g != want {
		t.Errorf("Get of %d bytes, % X ..: %v, want %v", len(b), b[:min(len(b), 20)], g, want)
	}
}

// wantReply: it may be, is written so, and that is read as the reply.
func wantReply(t *testing.T, r api.Reply, want []byte) {
	t.Helper()
	b, err := replies.Put(r)
	if err != api.OK || !bytes.Equal(b, want) || replies.Check(r) != api.OK {
		t.Errorf("%v: Put % X, %d, Check %d; want % X", r, b, err, replies.Check(r), want)
	}
	wantGot(t, want, got{reply: r})
}

// wantNone: it may not be, and has no bytes.
func wantNone(t *testing.T, r api.Reply) {
	t.Helper()
	if b, err := replies.Put(r); err != api.ErrReply || len(b) != 0 || replies.Check(r) != api.ErrReply {
		t.Errorf("%v: Put % X, %d, Check %d; want ErrReply", r, b, err, replies.Check(r))
	}
}

// wantAsModel holds Check and Put of r, and Get of its bytes, against the model.
func wantAsModel(t *testing.T, r api.Reply) {
	t.Helper()
	if checkOf(r) != api.OK {
		wantNone(t, r)
		return
	}
	wantReply(t, r, bytesOf(r))
}

// wantTaken holds Get of b against the model; it tells whether b was taken, and if so, Put makes just b of it.
func wantTaken(t *testing.T, b []byte) bool {
	t.Helper()
	g := get(b)
	wantGot(t, b, getOf(b))
	if g.err != api.OK {
		return false
	}
	if again, err := replies.Put(g.reply); err != api.OK || !bytes.Equal(again, b) {
		t.Errorf("Get of % X: %v, of which Put makes % X, %d", b, g, again, err)
	}
	return true
}

// P21.2, P21.3: the chapter's first example.
func TestPutExamples(t *testing.T) {
	wantReply(t, api.Reply{Tag: 5, Kind: api.ReqHold, Id: 258, Until: 3},
		[]byte{5, 0, 0, 0, 1, 0, 0, 2, 1, 0, 0, 3, 0, 0, 0, 0, 0, 0, 0})
	wantReply(t, api.Reply{Tag: 5, Kind: api.ReqHold, Err: api.ErrTaken}, []byte{5, 0, 0, 0, 1, 0xAA, 0})
	wantReply(t, api.Reply{Tag: 1, Kind: api.ReqCancel}, []byte{1, 0, 0, 0, 3, 0, 0})
	wantReply(t, api.Reply{Tag: 2, Kind: api.ReqQuery, Seat: 7}, []byte{2, 0, 0, 0, 5, 0, 0, 7, 0, 0, 0, 0, 0, 0, 0, 0, 0})
	wantReply(t, api.Reply{Err: api.ErrRequest}, []byte{0, 0, 0, 0, 0, 0xC8, 0})
}

// P21.2, P21.3: the bytes of each kind, with numbers of unlike bytes, and beside an error.
func TestPutOfEachKind(t *testing.T) {
	const tag = 0x84030201
	const until = 0x7213121110090807
	behind := func(kind byte, fields ...byte) []byte {
		return append([]byte{1, 2, 3, 0x84, kind, 0, 0}, fields...)
	}
	for _, kind := range []api.RequestKind{api.ReqHold, api.ReqSeat} {
		wantReply(t, api.Reply{Tag: tag, Kind: kind, Id: 0xD8070605, Until: until},
			behind(byte(kind), 5, 6, 7, 0xD8, 7, 8, 9, 0x10, 0x11, 0x12, 0x13, 0x72))
	}
	wantReply(t, api.Reply{Tag: tag, Kind: api.ReqConfirm}, behind(2))
	wantReply(t, api.Reply{Tag: tag, Kind: api.ReqCancel}, behind(3))
	wantReply(t, api.Reply{Tag: tag, Kind: api.ReqReseat, Seat: 0xF605}, behind(4, 5, 0xF6))
	wantReply(t, api.Reply{Tag: tag, Kind: api.ReqQuery, Seat: 0xF605, Until: until},
		behind(5, 5, 0xF6, 7, 8, 9, 0x10, 0x11, 0x12, 0x13, 0x72))
	wantReply(t, api.Reply{Tag: tag, Kind: api.ReqTick, Until: until}, behind(7, 7, 8, 9, 0x10, 0x11, 0x12, 0x13, 0x72))
	for _, kind := range []api.RequestKind{api.ReqFlush, api.ReqSave, api.ReqCount} {
		wantReply(t, api.Reply{Tag: tag, Kind: kind, Count: 0xF605}, behind(byte(kind), 5, 0xF6))
	}
	for kind := api.ReqHold; kind <= api.ReqCount; kind++ {
		wantReply(t, api.Reply{Tag: tag, Kind: kind, Err: 0xF605}, []byte{1, 2, 3, 0x84, byte(kind), 5, 0xF6})
	}
}

// P21.1: the chapter's second example.
func TestCheckExamples(t *testing.T) {
	for _, r := range []api.Reply{{}, {Tag: 1, Err: api.ErrRequest}, {Kind: 11}, {Kind: api.ReqHold, Seat: 1},
		{Kind: api.ReqHold, Id: 1, Err: api.ErrTaken}, {Kind: api.ReqCount, Count: 65536}, {Kind: api.ReqTick, Until: -1},
		{Kind: api.ReqTick, Err: -1}, {Kind: api.ReqTick, Err: 65536}, {Err: api.ErrArg}} {
		wantNone(t, r)
	}
	wantReply(t, api.Reply{Kind: api.ReqHold}, []byte{0, 0, 0, 0, 1, 0, 0, 0, 0, 0, 0, 0, 0, 0, 0, 0, 0, 0, 0})
	wantReply(t, api.Reply{Kind: api.ReqFlush, Err: 65535}, []byte{0, 0, 0, 0, 8, 255, 255})
	wantReply(t, api.Reply{Kind: api.ReqConfirm, Err: api.ErrRequest}, []byte{0, 0, 0, 0, 2, 200, 0})
}

// P21.3: the chapter's third example.
func TestGetExamples(t *testing.T) {
	wantGot(t, []byte{1, 0, 0, 0, 3, 0, 0}, got{reply: api.Reply{Tag: 1, Kind: api.ReqCancel}})
	for _, b := range [][]byte{nil, {}, {1, 0, 0, 0, 3, 0, 0, 0}, {1, 0, 0, 0, 3, 0}, {1, 0, 0, 0, 11, 0, 0}, {1, 0, 0, 0, 0, 200, 0},
		{0, 0, 0, 0, 0, 200, 0, 0}, {1, 0, 0, 0, 4, 0, 0}} {
		wantGot(t, b, refused)
	}
}

// P21.1: each field at its limits, one past them, and what a conversion would make right.
func TestCheckAtTheLimits(t *testing.T) {
	wantReply(t, api.Reply{Tag: 1<<32 - 1, Kind: api.ReqHold, Id: 1<<32 - 1, Until: math.MaxInt64},
		[]byte{255, 255, 255, 255, 1, 0, 0, 255, 255, 255, 255, 255, 255, 255, 255, 255, 255, 255, 127})
	wantReply(t, api.Reply{Kind: api.ReqReseat, Seat: 65535}, []byte{0, 0, 0, 0, 4, 0, 0, 255, 255})
	wantReply(t, api.Reply{Kind: api.ReqSave, Count: 65535}, []byte{0, 0, 0, 0, 9, 0, 0, 255, 255})
	for _, n := range []int{-1, -65535, -65536, 65536, 65537, 1 << 32, 1<<32 + 1, math.MinInt, math.MaxInt} {
		wantNone(t, api.Reply{Kind: api.ReqReseat, Seat: n})
		wantNone(t, api.Reply{Kind: api.ReqQuery, Seat: n, Until: 5})
		wantNone(t, api.Reply{Kind: api.ReqFlush, Count: n})
		wantNone(t, api.Reply{Kind: api.ReqSave, Count: n})
		wantNone(t, api.Reply{Kind: api.ReqCount, Count: n})
		for kind := range layouts {
			wantNone(t, api.Reply{Tag: 3, Kind: kind, Err: api.Errno(n)})
		}
	}
	for _, until := range []int64{-1, -1 << 32, math.MinInt64, math.MinInt64 + 1} {
		wantNone(t, api.Reply{Kind: api.ReqHold, Id: 1, Until: until})
		wantNone(t, api.Reply{Kind: api.ReqQuery, Seat: 1, Until: until})
		wantNone(t, api.Reply{Kind: api.ReqSeat, Id: 1, Until: until})
		wantNone(t, api.Reply{Kind: api.ReqTick, Until: until})
	}
}

// P21.1: a field that the kind has not, or that stands beside an error, must be 0, whatever stands in it.
func TestCheckOfOtherFields(t *testing.T) {
	for kind := api.ReqHold; kind <= api.ReqCount; kind++ {
		for _, n := range []int64{math.MinInt64, -1, 1, 5, 65535, 1 << 16, 1 << 31, 1 << 32, math.MaxInt64} {
			for _, err := range []api.Errno{api.OK, api.ErrNil, api.ErrTaken, api.ErrRequest, 65535} {
				wantAsModel(t, api.Reply{Tag: 9, Kind: kind, Err: err, Id: uint32(n)})
				wantAsModel(t, api.Reply{Tag: 9, Kind: kind, Err: err, Seat: int(n)})
				wantAsModel(t, api.Reply{Tag: 9, Kind: kind, Err: err, Until: n})
				wantAsModel(t, api.Reply{Tag: 9, Kind: kind, Err: err, Count: int(n)})
			}
		}
	}
	wantNone(t, api.Reply{Kind: api.ReqHold, Until: 1, Count: 1})
	wantNone(t, api.Reply{Kind: api.ReqQuery, Id: 1, Seat: 1})
	wantNone(t, api.Reply{Kind: api.ReqTick, Id: 1, Until: 1})
	wantNone(t, api.Reply{Kind: api.ReqQuery, Err: api.ErrUnknown, Seat: 1})
	wantNone(t, api.Reply{Kind: api.ReqFlush, Err: api.ErrDown, Count: 1})
	wantNone(t, api.Reply{Kind: api.ReqTick, Err: api.ErrClock, Until: 1})
}

// P21.1, P21.2: of the kind 0 there is one reply alone.
func TestReplyOfNoKind(t *testing.T) {
	for err := range api.Errno(66000) {
		wantAsModel(t, api.Reply{Err: err})
		wantAsModel(t, api.Reply{Err: -err})
		wantAsModel(t, api.Reply{Err: err + 1<<32})
	}
	for _, r := range []api.Reply{{Tag: 1}, {Tag: 1 << 31, Err: 200}, {Id: 1, Err: 200}, {Seat: 1, Err: 200}, {Until: 1, Err: 200},
		{Count: 1, Err: 200}, {Seat: -1, Err: 200}, {Until: -1, Err: 200}, {Count: -1, Err: 200}} {
		wantNone(t, r)
	}
	for err := range 65536 {
		wantTaken(t, []byte{0, 0, 0, 0, 0, byte(err), byte(err / 256)})
	}
	for at := range 4 {
		b := []byte{0, 0, 0, 0, 0, 200, 0}
		b[at] = 1
		wantGot(t, b, refused)
	}
}

// P21.1: every other number is no kind, with an error and without.
func TestKinds(t *testing.T) {
	for kind := api.RequestKind(11); kind < 70000; kind++ {
		for _, err := range []api.Errno{api.OK, api.ErrRequest} {
			wantNone(t, api.Reply{Kind: kind, Err: err})
			wantNone(t, api.Reply{Kind: 10 - kind, Err: err})
			wantNone(t, api.Reply{Kind: kind - 11 + 1<<32, Err: err})
		}
	}
}

// P21.1, P21.2, P21.3: every kind with every field's edges, together.
func TestEdgesTogether(t *testing.T) {
	right := 0
	var r api.Reply
	for _, r.Kind = range kinds {
		for _, r.Err = range errnos {
			for _, r.Id = range ids {
				for _, r.Seat = range counts {
					for _, r.Until = range untils {
						for _, r.Count = range []int{-1, 0, 1, 65535, 65536} {
							r.Tag = tags[r.Id%5]
							if checkOf(r) == api.OK {
								right++
							} else if replies.Check(r) == api.ErrReply { // to write it as well would take too long
								continue
							}
							wantAsModel(t, r)
						}
					}
				}
			}
		}
	}
	if right < 100 {
		t.Errorf("only %d were right", right)
	}
}

// P21.4: Get of Put's bytes is the reply.
func TestThereAndBack(t *testing.T) {
	for _, r := range rightReplies() {
		wantReply(t, r, bytesOf(r))
	}
	next := chance(1)
	for range 50000 {
		wantAsModel(t, anyReply(next))
	}
	for n := range 65600 {
		wantAsModel(t, api.Reply{Tag: 7, Kind: api.ReqReseat, Seat: n})
		wantAsModel(t, api.Reply{Tag: 7, Kind: api.ReqCount, Count: n})
		wantAsModel(t, api.Reply{Tag: 7, Kind: api.ReqQuery, Err: api.Errno(n)})
	}
}

// P21.4: no reply's bytes are the beginning of another one's; sorted, one that were would stand right ahead of such.
func TestNoBeginnings(t *testing.T) {
	var rows [][]byte
	for _, r := range rightReplies() {
		b, _ := replies.Put(r)
		if len(b) < 7 || len(b) > 19 {
			t.Errorf("%v has %d bytes", r, len(b))
		}
		rows = append(rows, b)
	}
	slices.SortFunc(rows, bytes.Compare)
	rows = slices.CompactFunc(rows, bytes.Equal)
	for at := 1; at < len(rows); at++ {
		if bytes.HasPrefix(rows[at], rows[at-1]) {
			t.Errorf("% X begins with % X", rows[at], rows[at-1])
		}
	}
}

// P21.3, P21.4: of each cut-off row and of each longer one there is no reply.
func TestGetOfEachLength(t *testing.T) {
	for _, r := range rightReplies() {
		b := bytesOf(r)
		for n := range b {
			wantGot(t, b[:n], refused)
		}
		for _, more := range [][]byte{{0}, {255}, {0, 0}, make([]byte, 8), make([]byte, 12), b, make([]byte, 40)} {
			wantGot(t, append(bytes.Clone(b), more...), refused)
		}
	}
	wantGot(t, make([]byte, 1<<20), refused)
	wantGot(t, bytes.Repeat([]byte{1}, 1<<20), refused)
}

// P21.3: each kind's byte, with and without an error, and any number of bytes behind it.
func TestGetOfEachKind(t *testing.T) {
	for kind := range 256 {
		for _, err := range []byte{0, 1, 200, 255} {
			for n := range 40 {
				for _, fill := range []byte{0, 1, 127, 128, 255} {
					b := append([]byte{fill, 0, 0, fill, byte(kind), err, 0}, bytes.Repeat([]byte{fill}, n)...)
					wantGot(t, b, getOf(b))
					if kind > 10 {
						wantGot(t, b, refused)
					}
				}
			}
		}
	}
}

// P21.3: Until from 2^63 on, of the four kinds that have it.
func TestGetOfUntilBelowZero(t *testing.T) {
	for _, ahead := range [][]byte{{1, 0, 0, 0, 1, 0, 0, 1, 0, 0, 0}, {1, 0, 0, 0, 5, 0, 0, 2, 0}, {1, 0, 0, 0, 6, 0, 0, 1, 0, 0, 0},
		{1, 0, 0, 0, 7, 0, 0}} {
		for high := range 256 {
			for _, low := range []byte{0, 1, 255} {
				b := append(bytes.Clone(ahead), low, low, low, low, low, low, low, byte(high))
				if wantTaken(t, b) != (high < 128) {
					t.Errorf("Get of % X: %v", b, get(b))
				}
			}
		}
	}
}

// P21.3, P21.4: right bytes of which one is each other one; what is taken is Put's bytes of what is told.
func TestGetOfTurnedBytes(t *testing.T) {
	for _, r := range []api.Reply{{Tag: 5, Kind: api.ReqHold, Id: 258, Until: 3}, {Kind: api.ReqHold, Id: 1, Until: math.MaxInt64},
		{Tag: 1, Kind: api.ReqConfirm}, {Kind: api.ReqCancel}, {Kind: api.ReqReseat, Seat: 512}, {Tag: 2, Kind: api.ReqQuery, Seat: 7},
		{Kind: api.ReqSeat, Id: 1 << 31, Until: 1}, {Tag: 1<<32 - 1, Kind: api.ReqTick, Until: 1}, {Kind: api.ReqFlush, Count: 3},
		{Kind: api.ReqSave}, {Kind: api.ReqCount, Count: 65535}, {Err: api.ErrRequest}, {Tag: 1, Kind: api.ReqHold, Err: api.ErrTaken},
		{Kind: api.ReqCount, Err: 256}, {Kind: api.ReqQuery, Err: api.ErrRequest}} {
		right := bytesOf(r)
		for at := range right {
			for value := range 256 {
				b := bytes.Clone(right)
				b[at] = byte(value)
				wantTaken(t, b)
			}
		}
	}
}

// P21.3, P21.4: any bytes, of kinds and lengths that there are more often than not.
func TestGetOfAnyBytes(t *testing.T) {
	next := chance(2)
	taken := 0
	for range 100000 {
		kind := api.RequestKind(next(12))
		b := make([]byte, 7+len(layouts[kind]))
		for at := range b {
			b[at] = byte(next(256) >> next(12))
		}
		b[4] = byte(kind)
		if next(4) > 0 {
			b[5], b[6] = 0, 0
		} else if next(2) == 0 {
			b = b[:7]
		}
		if next(4) == 0 {
			b = append(b, 0, 1, 2)[:next(uint64(len(b)+3))]
		}
		if wantTaken(t, b) {
			taken++
		}
	}
	if taken < 1000 {
		t.Errorf("only %d were taken", taken)
	}
}

// P21.2, P21.3 (R3): bytes that are handed in stay, with the room behind them; those that are answered are new ones.
func TestMemory(t *testing.T) {
	for _, r := range rightReplies() {
		right := bytesOf(r)
		room := append(bytes.Clone(right), 7, 7, 7, 7, 7, 7, 7, 7)
		before := bytes.Clone(room)
		for n := range len(room) + 1 {
			get(room[:n])
		}
		if !bytes.Equal(room, before) {
			t.Fatalf("Get has made % X of % X", room, before)
		}
		first, _ := replies.Put(r)
		second, _ := replies.Put(r)
		clear(first[:cap(first)])
		if third, _ := replies.Put(r); !bytes.Equal(second, right) || !bytes.Equal(third, right) {
			t.Fatalf("Put of %v: % X, % X behind a write", r, second, third)
		}
	}
}

// P21.1, P21.2, P21.3 (R6, R7): calls that are made at one time answer as alone.
func TestAtOneTime(t *testing.T) {
	var all sync.WaitGroup
	for seed := range uint64(8) {
		all.Go(func() {
			next := chance(seed)
			for range 2000 {
				wantAsModel(t, anyReply(next))
			}
		})
	}
	all.Wait()
}

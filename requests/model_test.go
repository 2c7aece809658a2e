package requests_test

import (
	"math"
	"strings"

	"gangway/api"
)

// layouts tells of each kind, byte by byte behind the tag's, of which field it is.
var layouts = map[api.RequestKind]string{
	1:  "sstttttttt",
	2:  "iiii",
	3:  "iiii",
	4:  "iiiiss",
	5:  "iiii",
	6:  "ss",
	7:  "tttttttt",
	8:  "",
	9:  "",
	10: "",
}

// limits tells the greatest number that may stand in a field; the least is 0.
var limits = map[rune]uint64{'i': 1<<32 - 1, 's': 65535, 't': 1<<63 - 1}

// numbersOf answers the numbers in the fields of q; those below 0 come out far above all limits.
func numbersOf(q api.Request) map[rune]uint64 {
	return map[rune]uint64{'i': uint64(q.Id), 's': uint64(q.Seat), 't': uint64(q.Ttl)}
}

// isGood tells whether a request of that kind with these numbers may be.
func isGood(kind api.RequestKind, numbers map[rune]uint64) bool {
	layout, there := layouts[kind]
	for field, n := range numbers {
		most := limits[field]
		if !strings.ContainsRune(layout, field) {
			most = 0
		}
		there = there && n <= most
	}
	return there
}

// checkOf answers what Check is to tell of q.
func checkOf(q api.Request) api.Errno {
	if !isGood(q.Kind, numbersOf(q)) {
		return api.ErrRequest
	}
	return api.OK
}

// bytesOf answers what Put is to tell of a request that may be.
func bytesOf(q api.Request) []byte {
	b := []byte{byte(q.Kind), byte(q.Tag % 256), byte(q.Tag / 256 % 256), byte(q.Tag / 65536 % 256), byte(q.Tag / 65536 / 256)}
	numbers := numbersOf(q)
	for _, field := range layouts[q.Kind] {
		b = append(b, byte(numbers[field]%256))
		numbers[field] /= 256
	}
	return b
}

// got is what Get tells.
type got struct {
	request api.Request
	err     api.Errno
}

// refused is what Get tells of bytes that are no request's.
var refused = got{err: api.ErrRequest}

// getOf answers what Get is to tell of b.
func getOf(b []byte) got {
	if len(b) < 5 {
		return refused
	}
	kind := api.RequestKind(b[0])
	layout, there := layouts[kind]
	if !there || len(b) != 5+len(layout) {
		return refused
	}
	numbers := map[rune]uint64{}
	for at := len(layout) - 1; at >= 0; at-- { // the highest byte of each field comes first
		field := rune(layout[at])
		numbers[field] = numbers[field]*256 + uint64(b[5+at])
	}
	if !isGood(kind, numbers) {
		return refused
	}
	tag := uint32(b[1]) + 256*(uint32(b[2])+256*(uint32(b[3])+256*uint32(b[4])))
	return got{request: api.Request{Kind: kind, Tag: tag, Id: uint32(numbers['i']), Seat: int(numbers['s']), Ttl: int64(numbers['t'])}}
}

// The numbers at which kinds, fields and their sizes go wrong first: limits, and those that a
// conversion to fewer bytes would turn into right ones.
var (
	kinds = []api.RequestKind{math.MinInt, math.MinInt32, -256, -255, -2, -1, 0, 1, 2, 3, 4, 5, 6, 7, 8, 9, 10, 11, 12, 255, 256, 257, 266,
		1<<16 + 1, 1<<32 + 1, 1<<32 + 10, math.MaxInt}
	tags  = []uint32{0, 1, 256, 1 << 31, 1<<32 - 1}
	ids   = []uint32{0, 1, 2, 255, 256, 258, 65535, 65536, 1 << 24, 1<<31 - 1, 1 << 31, 1<<32 - 2, 1<<32 - 1}
	seats = []int{math.MinInt, math.MinInt + 1, -65536, -65535, -1, 0, 1, 2, 255, 256, 1023, 1024, 32767, 32768, 65534, 65535, 65536, 65537,
		1 << 32, 1<<32 + 1, math.MaxInt}
	ticks = []int64{math.MinInt64, math.MinInt64 + 1, -1 << 40, -1, 0, 1, 2, 255, 256, 1<<30 - 1, 1 << 30, 1<<30 + 1, 1<<32 - 1, 1 << 32,
		1 << 40, 1<<40 + 1, 1 << 62, math.MaxInt64 - 1, math.MaxInt64}
)

// rightRequests are those at the limits and between them, of all kinds.
func rightRequests() []api.Request {
	rightSeats := []int{0, 1, 2, 255, 256, 511, 1023, 1024, 32768, 65534, 65535}
	var l []api.Request
	for _, tag := range tags {
		for _, kind := range []api.RequestKind{api.ReqFlush, api.ReqSave, api.ReqCount} {
			l = append(l, api.Request{Kind: kind, Tag: tag})
		}
		for _, id := range ids {
			for _, kind := range []api.RequestKind{api.ReqConfirm, api.ReqCancel, api.ReqQuery} {
				l = append(l, api.Request{Kind: kind, Tag: tag, Id: id})
			}
			for _, seat := range rightSeats {
				l = append(l, api.Request{Kind: api.ReqReseat, Tag: tag, Id: id, Seat: seat})
			}
		}
		for _, seat := range rightSeats {
			l = append(l, api.Request{Kind: api.ReqSeat, Tag: tag, Seat: seat}, api.Request{Kind: api.ReqHold, Tag: tag, Seat: seat},
				api.Request{Kind: api.ReqHold, Tag: tag, Seat: seat, Ttl: math.MaxInt64})
			for k := range 63 {
				l = append(l, api.Request{Kind: api.ReqHold, Tag: tag, Seat: seat, Ttl: 1 << k})
			}
		}
		for k := range 63 {
			l = append(l, api.Request{Kind: api.ReqTick, Tag: tag, Ttl: 1 << k}, api.Request{Kind: api.ReqTick, Tag: tag, Ttl: math.MaxInt64 >> k})
		}
		l = append(l, api.Request{Kind: api.ReqTick, Tag: tag})
	}
	return l
}

// chance tells as many numbers as one asks for, the same ones every time.
func chance(seed uint64) func(below uint64) uint64 {
	return func(below uint64) uint64 {
		seed = seed*6364136223846793005 + 1442695040888963407
		return (seed >> 24) % below
	}
}

// anyRequest answers one that is right more often than not.
func anyRequest(next func(below uint64) uint64) api.Request {
	q := api.Request{Kind: api.RequestKind(1 + next(10)), Tag: uint32(next(1<<32) >> next(32))}
	layout := layouts[q.Kind]
	if strings.Contains(layout, "i") {
		q.Id = uint32(next(1<<32) >> next(32))
	}
	if strings.Contains(layout, "s") {
		q.Seat = int(next(70000))
	}
	if strings.Contains(layout, "t") {
		q.Ttl = int64(next(1<<40) << next(26) >> next(40))
	}
	return q
}

package records_test

import (
	"math"
	"strings"

	"gangway/api"
)

// layouts tells of each kind, byte by byte behind the kind's own, of which field it is.
var layouts = map[api.RecordKind]string{
	1: "iiiissuuuuuuuu",
	2: "iiii",
	3: "iiii",
	4: "iiiiss",
	5: "cccccccc",
}

// limits tells the least and the greatest number that may stand in a field.
var limits = map[rune][2]uint64{
	'i': {1, 1<<32 - 1},
	's': {0, 1023},
	'u': {1, 1 << 40},
	'c': {1, 1 << 40},
}

// numbersOf answers the numbers in the fields of r; those below 0 come out far above all limits.
func numbersOf(r api.Record) map[rune]uint64 {
	return map[rune]uint64{'i': uint64(r.Id), 's': uint64(r.Seat), 'u': uint64(r.Until), 'c': uint64(r.Clock)}
}

// isGood tells whether a record of that kind with these numbers may be.
func isGood(kind api.RecordKind, numbers map[rune]uint64) bool {
	layout, there := layouts[kind]
	for field, n := range numbers {
		least, most := limits[field][0], limits[field][1]
		if !strings.ContainsRune(layout, field) {
			least, most = 0, 0
		}
		there = there && n >= least && n <= most
	}
	return there
}

// checkOf answers what Check is to tell of r.
func checkOf(r api.Record) api.Errno {
	if !isGood(r.Kind, numbersOf(r)) {
		return api.ErrRecord
	}
	return api.OK
}

// bytesOf answers what Put is to tell of a record that may be.
func bytesOf(r api.Record) []byte {
	b := []byte{byte(r.Kind)}
	numbers := numbersOf(r)
	for _, field := range layouts[r.Kind] {
		b = append(b, byte(numbers[field]%256))
		numbers[field] /= 256
	}
	return b
}

// got is what Get tells.
type got struct {
	record api.Record
	err    api.Errno
}

// getOf answers what Get is to tell of b.
func getOf(b []byte) got {
	if len(b) == 0 {
		return got{err: api.ErrShort}
	}
	kind := api.RecordKind(b[0])
	layout, there := layouts[kind]
	if !there {
		return got{err: api.ErrRecord}
	}
	if len(b)-1 < len(layout) {
		return got{err: api.ErrShort}
	}
	numbers := map[rune]uint64{}
	for at := len(layout) - 1; at >= 0; at-- { // the highest byte of each field comes first
		field := rune(layout[at])
		numbers[field] = numbers[field]*256 + uint64(b[1+at])
	}
	if !isGood(kind, numbers) {
		return got{err: api.ErrRecord}
	}
	if len(b)-1 > len(layout) {
		return got{err: api.ErrMore}
	}
	return got{record: api.Record{Kind: kind, Id: uint32(numbers['i']), Seat: int(numbers['s']),
		Until: int64(numbers['u']), Clock: int64(numbers['c'])}}
}

// The numbers at which kinds, fields and their sizes go wrong first: limits, and those that a
// conversion to fewer bytes would turn into right ones.
var (
	kinds = []api.RecordKind{math.MinInt, math.MinInt32, -255, -2, -1, 0, 1, 2, 3, 4, 5, 6, 7, 9, 255, 256, 257, 261, 1<<16 + 1,
		1<<32 + 1, 1<<32 + 5, math.MaxInt}
	ids   = []uint32{0, 1, 2, 255, 256, 258, 65535, 65536, 1 << 24, 1<<31 - 1, 1 << 31, 1<<32 - 2, 1<<32 - 1}
	seats = []int{math.MinInt, math.MinInt + 1, -65536, -65535, -1, 0, 1, 2, 255, 256, 1022, 1023, 1024, 1025, 65535, 65536, 65537, 1 << 32,
		1<<32 + 1, math.MaxInt}
	ticks = []int64{math.MinInt64, math.MinInt64 + 1, -1 << 40, -1, 0, 1, 2, 255, 256, 1<<32 - 1, 1 << 32, 1<<40 - 1, 1 << 40, 1<<40 + 1,
		1<<41 + 1, 1<<62 + 1, math.MaxInt64}
)

// rightRecords are those at the limits and between them, of all kinds.
func rightRecords() []api.Record {
	var l []api.Record
	for _, id := range ids[1:] {
		l = append(l, api.Record{Kind: api.RecConfirm, Id: id}, api.Record{Kind: api.RecCancel, Id: id})
		for _, seat := range []int{0, 1, 2, 255, 256, 511, 512, 1022, 1023} {
			l = append(l, api.Record{Kind: api.RecReseat, Id: id, Seat: seat})
			for k := range 41 {
				l = append(l, api.Record{Kind: api.RecHold, Id: id, Seat: seat, Until: 1 << k})
			}
			l = append(l, api.Record{Kind: api.RecHold, Id: id, Seat: seat, Until: 1<<40 - 1})
		}
	}
	for k := range 41 {
		l = append(l, api.Record{Kind: api.RecTick, Clock: 1 << k}, api.Record{Kind: api.RecTick, Clock: (1<<40 - 1) / int64(k+1)})
	}
	return l
}

// chance tells as many numbers as one asks for, the same ones every time.
func chance(seed uint64) func(below uint64) uint64 {
	return func(below uint64) uint64 {
		seed = seed*6364136223846793005 + 1442695040888963407
		return (seed >> 24) % below
	}
}

// anyRecord answers one that is right more often than not.
func anyRecord(next func(below uint64) uint64) api.Record {
	r := api.Record{Kind: api.RecordKind(1 + next(5))}
	layout := layouts[r.Kind]
	if strings.Contains(layout, "i") {
		r.Id = uint32(next(1<<32) >> next(32))
	}
	if strings.Contains(layout, "s") {
		r.Seat = int(next(1100))
	}
	if strings.Contains(layout, "u") {
		r.Until = int64(next(1<<40) >> next(40))
	}
	if strings.Contains(layout, "c") {
		r.Clock = int64(next(1<<40) >> next(40))
	}
	return r
}

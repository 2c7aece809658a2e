package replies_test

import (
	"math"
	"strings"

	"gangway/api"
)

// layouts tells of each kind, byte by byte behind the error's, of which field it is where the error is OK.
var layouts = map[api.RequestKind]string{
	1:  "iiiiuuuuuuuu",
	2:  "",
	3:  "",
	4:  "ss",
	5:  "ssuuuuuuuu",
	6:  "iiiiuuuuuuuu",
	7:  "uuuuuuuu",
	8:  "cc",
	9:  "cc",
	10: "cc",
}

// limits tells the greatest number that may stand in a field; the least is 0.
var limits = map[rune]uint64{'i': 1<<32 - 1, 's': 65535, 'u': 1<<63 - 1, 'c': 65535}

// numbersOf answers the numbers in the fields of r; those below 0 come out far above all limits.
func numbersOf(r api.Reply) map[rune]uint64 {
	return map[rune]uint64{'i': uint64(r.Id), 's': uint64(r.Seat), 'u': uint64(r.Until), 'c': uint64(r.Count)}
}

// layoutOf answers what stands behind the error of a reply of that kind, and whether there are such replies.
func layoutOf(tag uint32, kind api.RequestKind, err api.Errno) (string, bool) {
	if kind == 0 {
		return "", tag == 0 && err == 200
	}
	layout, there := layouts[kind]
	if err != 0 {
		layout = ""
	}
	return layout, there && err >= 0 && err < 65536
}

// isGood tells whether these numbers may stand beside such a layout.
func isGood(layout string, numbers map[rune]uint64) bool {
	good := true
	for field, n := range numbers {
		most := limits[field]
		if !strings.ContainsRune(layout, field) {
			most = 0
		}
		good = good && n <= most
	}
	return good
}

// checkOf answers what Check is to tell of r.
func checkOf(r api.Reply) api.Errno {
	layout, there := layoutOf(r.Tag, r.Kind, r.Err)
	if !there || !isGood(layout, numbersOf(r)) {
		return api.ErrReply
	}
	return api.OK
}

// bytesOf answers what Put is to tell of a reply that may be.
func bytesOf(r api.Reply) []byte {
	b := []byte{byte(r.Tag % 256), byte(r.Tag / 256 % 256), byte(r.Tag / 65536 % 256), byte(r.Tag / 65536 / 256), byte(r.Kind),
		byte(r.Err % 256), byte(r.Err / 256)}
	numbers := numbersOf(r)
	layout, _ := layoutOf(r.Tag, r.Kind, r.Err)
	for _, field := range layout {
		b = append(b, byte(numbers[field]%256))
		numbers[field] /= 256
	}
	return b
}

// got is what Get tells.
type got struct {
	reply api.Reply
	err   api.Errno
}

// refused is what Get tells of bytes that are no reply's.
var refused = got{err: api.ErrReply}

// getOf answers what Get is to tell of b.
func getOf(b []byte) got {
	if len(b) < 7 {
		return refused
	}
	tag := uint32(b[0]) + 256*(uint32(b[1])+256*(uint32(b[2])+256*uint32(b[3])))
	kind := api.RequestKind(b[4])
	err := api.Errno(b[5]) + 256*api.Errno(b[6])
	layout, there := layoutOf(tag, kind, err)
	if !there || len(b) != 7+len(layout) {
		return refused
	}
	numbers := map[rune]uint64{}
	for at := len(layout) - 1; at >= 0; at-- { // the highest byte of each field comes first
		field := rune(layout[at])
		numbers[field] = numbers[field]*256 + uint64(b[7+at])
	}
	if !isGood(layout, numbers) {
		return refused
	}
	return got{reply: api.Reply{Tag: tag, Kind: kind, Err: err, Id: uint32(numbers['i']), Seat: int(numbers['s']),
		Until: int64(numbers['u']), Count: int(numbers['c'])}}
}

// The numbers at which kinds, errors, fields and their sizes go wrong first: limits, and those that a
// conversion to fewer bytes would turn into right ones.
var (
	kinds = []api.RequestKind{math.MinInt, -256, -255, -1, 0, 1, 2, 3, 4, 5, 6, 7, 8, 9, 10, 11, 12, 255, 256, 257, 266,
		1<<16 + 1, 1<<32 + 1, 1<<32 + 10, math.MaxInt}
	errnos = []api.Errno{math.MinInt, -65536, -1, 0, 1, 170, 199, 200, 201, 210, 255, 256, 65535, 65536, 65536 + 200, 1 << 32, 1<<32 + 200,
		math.MaxInt}
	tags   = []uint32{0, 1, 256, 1 << 31, 1<<32 - 1}
	ids    = []uint32{0, 1, 258, 65536, 1 << 31, 1<<32 - 1}
	counts = []int{math.MinInt, -65536, -65535, -1, 0, 1, 255, 256, 65535, 65536, 65537, 1 << 32, math.MaxInt}
	untils = []int64{math.MinInt64, math.MinInt64 + 1, -1 << 40, -1, 0, 1, 256, 1 << 32, 1 << 40, 1<<40 + 1, math.MaxInt64}
)

// rightReplies are those at the limits and between them, of all kinds, with errors and without.
func rightReplies() []api.Reply {
	l := []api.Reply{{Err: api.ErrRequest}}
	for _, tag := range tags {
		for kind := range layouts {
			for _, err := range []api.Errno{0, 1, 170, 200, 210, 255, 256, 32768, 65534, 65535} {
				l = append(l, api.Reply{Tag: tag, Kind: kind, Err: err})
			}
		}
		for _, n := range []int{1, 2, 255, 256, 1023, 1024, 32767, 32768, 65534, 65535} {
			l = append(l, api.Reply{Tag: tag, Kind: api.ReqReseat, Seat: n}, api.Reply{Tag: tag, Kind: api.ReqQuery, Seat: n},
				api.Reply{Tag: tag, Kind: api.ReqFlush, Count: n}, api.Reply{Tag: tag, Kind: api.ReqSave, Count: n},
				api.Reply{Tag: tag, Kind: api.ReqCount, Count: n})
		}
		for k := range 63 {
			for _, until := range []int64{1 << k, math.MaxInt64 >> k} {
				l = append(l, api.Reply{Tag: tag, Kind: api.ReqHold, Id: 1 << (k % 32), Until: until},
					api.Reply{Tag: tag, Kind: api.ReqSeat, Id: math.MaxUint32 >> (k % 32), Until: until},
					api.Reply{Tag: tag, Kind: api.ReqQuery, Seat: 65535 >> (k % 16), Until: until},
					api.Reply{Tag: tag, Kind: api.ReqTick, Until: until})
			}
		}
	}
	return l
}

// chance tells as many numbers as one asks for, the same ones every time.
func chance(seed uint64) func(below uint64) uint64 {
	return func(below uint64) uint64 {
		seed = seed*6364136223846793005 + 1442695040888963407
		return (seed >> 24) % below
	}
}

// anyReply answers one that is right more often than not.
func anyReply(next func(below uint64) uint64) api.Reply {
	r := api.Reply{Tag: uint32(next(1<<32) >> next(32)), Kind: api.RequestKind(1 + next(10))}
	layout := layouts[r.Kind]
	if next(3) == 0 {
		r.Err = api.Errno(next(66000))
		layout = ""
	}
	if strings.Contains(layout, "i") {
		r.Id = uint32(next(1<<32) >> next(32))
	}
	if strings.Contains(layout, "s") {
		r.Seat = int(next(70000))
	}
	if strings.Contains(layout, "u") {
		r.Until = int64(next(1<<40) << next(26) >> next(40))
	}
	if strings.Contains(layout, "c") {
		r.Count = int(next(70000))
	}
	return r
}

package octets_test

import (
	"bytes"
	"math"
	"testing"

	"gangway/api"
	"gangway/octets"
)

func wantState(t *testing.T, what string, r *octets.Reader, left int, err, end api.Errno) {
	t.Helper()
	for range 2 { // asking changes nothing
		if r.Left() != left || r.Err() != err || r.End() != end {
			t.Errorf("%s: Left %d, Err %d, End %d; want %d, %d, %d", what, r.Left(), r.Err(), r.End(), left, err, end)
		}
	}
}

// wantFailed: the error stays, and nothing is given, whatever is asked.
func wantFailed(t *testing.T, what string, r *octets.Reader, err api.Errno) {
	t.Helper()
	wantState(t, what, r, 0, err, err)
	for range 2 {
		if n := r.Byte(); n != 0 {
			t.Errorf("%s: Byte %d", what, n)
		}
		if n := r.Two(); n != 0 {
			t.Errorf("%s: Two %d", what, n)
		}
		if n := r.Four(); n != 0 {
			t.Errorf("%s: Four %d", what, n)
		}
		if n := r.Eight(); n != 0 {
			t.Errorf("%s: Eight %d", what, n)
		}
		for _, n := range []int{math.MinInt, -1, 0, 1, 3, math.MaxInt} {
			if b := r.Take(n); len(b) != 0 {
				t.Errorf("%s: Take(%d) %v", what, n, b)
			}
			wantState(t, what, r, 0, err, err)
		}
	}
}

// numbers reads a number of each size, as one of eight bytes.
var numbers = []struct {
	name string
	size int
	read func(r *octets.Reader) uint64
}{
	{"Byte", 1, func(r *octets.Reader) uint64 { return uint64(r.Byte()) }},
	{"Two", 2, func(r *octets.Reader) uint64 { return uint64(r.Two()) }},
	{"Four", 4, func(r *octets.Reader) uint64 { return uint64(r.Four()) }},
	{"Eight", 8, func(r *octets.Reader) uint64 { return r.Eight() }},
}

// P1.2 to P1.4: the chapter's second and third example.
func TestReadExamples(t *testing.T) {
	r := octets.Of([]byte{1, 2, 3})
	if n := r.Two(); n != 513 {
		t.Error("Two", n)
	}
	wantState(t, "behind Two", r, 1, api.OK, api.ErrMore)
	if n := r.Byte(); n != 3 {
		t.Error("Byte", n)
	}
	wantState(t, "at the end", r, 0, api.OK, api.OK)
	if n := r.Byte(); n != 0 {
		t.Error("Byte at the end", n)
	}
	wantFailed(t, "past the end", r, api.ErrShort)

	r = octets.Of([]byte{1, 2, 3})
	if n := r.Four(); n != 0 {
		t.Error("Four", n)
	}
	wantFailed(t, "Four of three", r, api.ErrShort)

	r = octets.Of([]byte{1, 2, 3})
	wantBytes(t, "Take(-1)", r.Take(-1), nil)
	wantBytes(t, "Take(9)", r.Take(9), nil)
	wantFailed(t, "Take(-1)", r, api.ErrArg)

	r = octets.Of([]byte{1})
	wantState(t, "one byte", r, 1, api.OK, api.ErrMore)
	wantBytes(t, "Take(0)", r.Take(0), nil)
	wantState(t, "one byte, Take(0)", r, 1, api.OK, api.ErrMore)
}

// P1.2: the lowest byte comes first, and the other bytes stay.
func TestReadNumbers(t *testing.T) {
	b := []byte{0x81, 0x92, 0xA3, 0xB4, 0xC5, 0xD6, 0xE7, 0xF8}
	want := []uint64{0x81, 0x9281, 0xB4A39281, 0xF8E7D6C5B4A39281}
	for i, c := range numbers {
		for extra := range 3 {
			r := octets.Of(append(bytes.Clone(b[:c.size]), make([]byte, extra)...))
			if n := c.read(r); n != want[i] {
				t.Errorf("%s: %x, want %x", c.name, n, want[i])
			}
			end := api.ErrMore
			if extra == 0 {
				end = api.OK
			}
			wantState(t, c.name, r, extra, api.OK, end)
		}
		top := octets.Of(bytes.Repeat([]byte{255}, c.size))
		if n := c.read(top); n != math.MaxUint64>>(64-8*c.size) {
			t.Errorf("%s of 255s: %x", c.name, n)
		}
	}
}

// P1.2: Take gives the next bytes, as many as are asked for.
func TestTake(t *testing.T) {
	all := rising(150)
	for n := range 151 {
		r := octets.Of(all)
		wantBytes(t, "Take", r.Take(n), all[:n])
		wantBytes(t, "Take of none", r.Take(0), nil)
		if r.Left() != 150-n || r.Err() != api.OK {
			t.Errorf("Take(%d): Left %d, Err %d", n, r.Left(), r.Err())
		}
		wantBytes(t, "Take of the others", r.Take(150-n), all[n:])
		wantState(t, "Take", r, 0, api.OK, api.OK)
	}
}

// P1.2, P1.4: nothing is left of nothing, and asking for nothing is no error.
func TestReadNothing(t *testing.T) {
	for _, b := range [][]byte{nil, {}} {
		r := octets.Of(b)
		wantState(t, "nothing", r, 0, api.OK, api.OK)
		wantBytes(t, "Take(0)", r.Take(0), nil)
		wantState(t, "nothing, Take(0)", r, 0, api.OK, api.OK)
		wantBytes(t, "Take(1)", r.Take(1), nil)
		wantFailed(t, "nothing, Take(1)", r, api.ErrShort)
	}
}

// P1.3: each size is refused at each number of bytes below it, and takes what was left along.
func TestReadTooFew(t *testing.T) {
	for _, c := range numbers {
		for n := range c.size {
			r := octets.Of(bytes.Repeat([]byte{255}, n))
			if got := c.read(r); got != 0 {
				t.Errorf("%s of %d bytes: %x", c.name, n, got)
			}
			wantFailed(t, c.name, r, api.ErrShort)
		}
	}
	for _, n := range []int{4, 5, 100, math.MaxInt32, math.MaxInt} {
		r := octets.Of([]byte{1, 2, 3})
		wantBytes(t, "Take of too many", r.Take(n), nil)
		wantFailed(t, "Take of too many", r, api.ErrShort)
	}
}

// P1.3: Take of a number below 0.
func TestTakeBelowZero(t *testing.T) {
	for _, n := range []int{-1, -3, math.MinInt32, math.MinInt} {
		for _, b := range [][]byte{nil, {1}, {1, 2, 3}} {
			r := octets.Of(b)
			wantBytes(t, "Take below 0", r.Take(n), nil)
			wantFailed(t, "Take below 0", r, api.ErrArg)
		}
	}
}

// P1.3: the first error stays, whichever it is.
func TestFirstErrorStays(t *testing.T) {
	short := octets.Of([]byte{1})
	short.Two()
	short.Take(-1)
	wantFailed(t, "ErrShort first", short, api.ErrShort)
	arg := octets.Of([]byte{1})
	arg.Take(-1)
	arg.Two()
	wantFailed(t, "ErrArg first", arg, api.ErrArg)
}

// P1.4: End is asked at every place of a row.
func TestEnd(t *testing.T) {
	r := octets.Of(rising(5))
	for left := 5; left > 0; left-- {
		wantState(t, "within", r, left, api.OK, api.ErrMore)
		if n := r.Byte(); n != rising(5)[5-left] {
			t.Error("asking End changed what is left", left, n)
		}
	}
	wantState(t, "at the end", r, 0, api.OK, api.OK)
}

// P1.5: a Reader that is nil, or that Of did not make.
func TestNoReader(t *testing.T) {
	var none *octets.Reader
	wantFailed(t, "nil", none, api.ErrNil)
	wantFailed(t, "new", new(octets.Reader), api.ErrNil)
	var zero octets.Reader
	wantFailed(t, "zero value", &zero, api.ErrNil)
}

// P1.6, R3: what a Reader is made of is neither kept nor changed, nor is the room behind its end.
func TestOfKeepsNothing(t *testing.T) {
	room := rising(20)
	r := octets.Of(room[:6])
	room[1] = 200
	if n := r.Two(); n != uint16(rising(20)[0])|uint16(rising(20)[1])<<8 {
		t.Error("what the caller writes shows", n)
	}
	room[1] = rising(20)[1]
	taken := r.Take(2)
	clear(taken)
	clear(append(taken, 1, 2, 3))
	r.Eight()
	wantFailed(t, "too few", r, api.ErrShort)
	wantBytes(t, "the argument and its room", room, rising(20))
}

// R3: what Take answers is new memory.
func TestTakeIsNew(t *testing.T) {
	r := octets.Of(rising(9))
	one := r.Take(3)
	one = append(one, 50, 50, 50)
	clear(one[:cap(one)])
	two := r.Take(3)
	wantBytes(t, "the second", two, rising(9)[3:6])
	clear(two[:cap(two)])
	wantBytes(t, "the third", r.Take(3), rising(9)[6:])
	wantState(t, "all taken", r, 0, api.OK, api.OK)
}

// R5: two readers of the same bytes share nothing.
func TestReadersApart(t *testing.T) {
	b := rising(8)
	one, two := octets.Of(b), octets.Of(b)
	one.Take(-1)
	wantState(t, "the other one", two, 8, api.OK, api.ErrMore)
	wantBytes(t, "the other one", two.Take(8), b)
}

package frame_test

import (
	"bytes"
	"math"
	"slices"
	"sync"
	"testing"

	"gangway/api"
	"gangway/crc"
	"gangway/frame"
)

const last = math.MaxUint64 // the number behind which there is none

func put(t *testing.T, epoch, seq uint64, body string) []byte {
	t.Helper()
	b, err := frame.Put(api.Frame{Epoch: epoch, Seq: seq, Body: []byte(body)})
	if err != api.OK {
		t.Fatalf("Put(%d, %d, %q): %d", epoch, seq, body, err)
	}
	return b
}

func of(epoch, seq uint64, body string) api.Frame {
	return api.Frame{Epoch: epoch, Seq: seq, Body: []byte(body)}
}

// wantRefused: nothing is told beside the error.
func wantRefused(t *testing.T, what string, b []byte, want api.Errno) {
	t.Helper()
	f, n, err := frame.Get(b)
	if err != want || n != 0 || f.Epoch != 0 || f.Seq != 0 || len(f.Body) != 0 {
		t.Errorf("%s: Get(%v): %v, %d, %d, want %d", what, b, f, n, err, want)
	}
}

// P8.1: the chapter's first example, every length, and numbers that are none.
func TestSize(t *testing.T) {
	for body, want := range map[int]int{0: 22, 1: 23, 31: 53, 32: 54, 33: 0, 34: 0, -1: 0, -22: 0, -21: 0,
		256: 0, 1 << 16: 0, 1<<16 + 1: 0, 1 << 32: 0, math.MaxInt: 0, math.MaxInt - 21: 0, math.MinInt: 0} {
		if n := frame.Size(body); n != want {
			t.Errorf("Size(%d) = %d, want %d", body, n, want)
		}
	}
	for body := range api.MaxBody + 1 {
		if n := frame.Size(body); n != 22+body {
			t.Errorf("Size(%d) = %d", body, n)
		}
	}
	if frame.Size(api.MaxBody) != api.MaxFrame {
		t.Error("the longest frame:", frame.Size(api.MaxBody))
	}
}

// P8.2: the chapter's first example, and where each number stands.
func TestPut(t *testing.T) {
	head := []byte{0, 0, 1, 0, 0, 0, 0, 0, 0, 0, 2, 0, 0, 0, 0, 0, 0, 0}
	sum := crc.Sum(head)
	want := append(head, byte(sum), byte(sum>>8), byte(sum>>16), byte(sum>>24))
	for _, body := range [][]byte{nil, {}} {
		if b, err := frame.Put(api.Frame{Epoch: 1, Seq: 2, Body: body}); err != api.OK || !bytes.Equal(b, want) {
			t.Errorf("Put(1, 2, no body): %v, %d, want %v", b, err, want)
		}
	}
	b := put(t, 0x0807060504030201, 0x1817161514131211, "xyz")
	want = []byte{3, 0, 1, 2, 3, 4, 5, 6, 7, 8, 0x11, 0x12, 0x13, 0x14, 0x15, 0x16, 0x17, 0x18, 'x', 'y', 'z'}
	if len(b) != 25 || !bytes.Equal(b[:21], want) {
		t.Errorf("Put: %v, want %v and a sum", b, want)
	}
	if got := numberOf(b[21:]); got != uint64(crc.Sum(want)) {
		t.Errorf("its sum: %08X, want %08X", got, crc.Sum(want))
	}
}

// P8.2: bodies that are too long; at the limit one is taken.
func TestPutLong(t *testing.T) {
	if b, err := frame.Put(api.Frame{Epoch: 9, Seq: 9, Body: make([]byte, 32)}); err != api.OK || len(b) != 54 {
		t.Error("32 bytes:", b, err)
	}
	for _, n := range []int{33, 34, 255, 256, 65535, 65536, 65537, 65536 + 32} {
		if b, err := frame.Put(api.Frame{Epoch: 9, Seq: 9, Body: make([]byte, n)}); err != api.ErrLong || len(b) != 0 {
			t.Errorf("%d bytes: %v, %d", n, b, err)
		}
	}
}

// P8.3: the chapter's second example.
func TestGet(t *testing.T) {
	b := put(t, 1, 2, "")
	if f, n, err := frame.Get(b); err != api.OK || n != 22 || !same(f, of(1, 2, "")) {
		t.Error("no body:", f, n, err)
	}
	wantRefused(t, "none", nil, api.ErrShort)
	wantRefused(t, "none", []byte{}, api.ErrShort)
	for x := range 256 {
		wantRefused(t, "one byte", []byte{byte(x)}, api.ErrShort)
	}
	wantRefused(t, "33 0", []byte{33, 0}, api.ErrLength)
	wantRefused(t, "32 0", []byte{32, 0}, api.ErrShort)
	wantRefused(t, "255 255", append([]byte{255, 255}, make([]byte, 100)...), api.ErrLength)
	wantRefused(t, "without the last one", b[:21], api.ErrShort)
	wantRefused(t, "22 noughts", make([]byte, 22), api.ErrSum)
	wantRefused(t, "100 noughts", make([]byte, 100), api.ErrSum)
}

// P8.3: every length that two bytes can say, with as many bytes behind as a frame of it would have, and
// with none.
func TestGetLengths(t *testing.T) {
	for n := 33; n < 1<<16; n++ {
		said := lowestFirst(uint64(n), 2)
		wantRefused(t, "two bytes", said, api.ErrLength)
		wantRefused(t, "54 bytes", append(said, make([]byte, 52)...), api.ErrLength)
	}
	for _, n := range []int{33, 256, 257, 300, 65535} { // whole, but for its length
		b := append(lowestFirst(uint64(n), 2), make([]byte, 16+n)...)
		wantRefused(t, "whole", append(b, lowestFirst(uint64(crc.Sum(b)), 4)...), api.ErrLength)
	}
	for n := range 33 {
		wantRefused(t, "two bytes", lowestFirst(uint64(n), 2), api.ErrShort)
	}
}

// P8.3: a frame that is cut off anywhere is too short, whatever its sum would be.
func TestGetCutOff(t *testing.T) {
	for n := range 33 {
		b := put(t, 5, 6, string(bytes.Repeat([]byte{7}, n)))
		for k := range b {
			wantRefused(t, "cut off", b[:k], api.ErrShort)
		}
	}
}

// P8.5: a frame of which one byte behind its length is another one, in its sum too.
func TestGetTurned(t *testing.T) {
	for _, body := range []string{"", "a", "gangway", string(bytes.Repeat([]byte{255}, 32))} {
		b := put(t, 1<<63, 77, body)
		for at := 2; at < len(b); at++ {
			for x := 1; x < 256; x++ {
				b[at] ^= byte(x)
				wantRefused(t, "turned", b, api.ErrSum)
				b[at] ^= byte(x)
			}
		}
		if _, _, err := frame.Get(b); err != api.OK {
			t.Error("turned back:", err)
		}
	}
}

// P8.3: the sum is told with its lowest byte first, and is that of the length too.
func TestGetSum(t *testing.T) {
	b := put(t, 3, 4, "ab")
	n := len(b)
	turned := bytes.Clone(b)
	slices.Reverse(turned[n-4:])
	wantRefused(t, "highest byte first", turned, api.ErrSum)
	copy(turned[n-4:], lowestFirst(uint64(crc.Sum(b[2:n-4])), 4))
	wantRefused(t, "without the length", turned, api.ErrSum)
	copy(turned[n-4:], lowestFirst(uint64(^crc.Sum(b[:n-4])), 4))
	wantRefused(t, "all bits turned", turned, api.ErrSum)
	long := slices.Concat(b, []byte{1, 2, 3, 4})
	long[0] = 3 // one more: the body's end lies elsewhere
	wantRefused(t, "another length", long, api.ErrSum)
}

// P8.4: the chapter's third example.
func TestScan(t *testing.T) {
	b := slices.Concat(put(t, 1, 5, "a"), put(t, 1, 6, ""), put(t, 2, 7, "c"))
	both := []api.Frame{of(1, 5, "a"), of(1, 6, "")}
	wantRow(t, "behind 4", b, 1, 4, both, 45)
	wantRow(t, "behind 5", b, 1, 5, nil, 0)
	wantRow(t, "behind 3", b, 1, 3, nil, 0)
	wantRow(t, "the epoch 2", b, 2, 6, nil, 0)
	wantRow(t, "the epoch 2, behind 4", b, 2, 4, nil, 0)
	wantRow(t, "the epoch 0", b, 0, 4, nil, 0)
	wantRow(t, "none", nil, 0, 0, nil, 0)
	wantRow(t, "none", []byte{}, 1, 4, nil, 0)
	wantRow(t, "the third alone", b[45:], 2, 6, []api.Frame{of(2, 7, "c")}, 23)
}

// P8.4: behind 2^64 - 1 there is none, also not 0, whatever stands there.
func TestScanLastNumber(t *testing.T) {
	end, nought := put(t, 1, last, ""), put(t, 1, 0, "z")
	wantRow(t, "the last number", end, 1, last-1, []api.Frame{of(1, last, "")}, 22)
	wantRow(t, "the number 0", nought, 1, last, nil, 0)
	wantRow(t, "the last one again", end, 1, last, nil, 0)
	both := []api.Frame{of(1, last-1, "y"), of(1, last, "")}
	wantRow(t, "wrapped round", slices.Concat(put(t, 1, last-1, "y"), end, nought, put(t, 1, 1, "")), 1, last-2, both, 45)
	wantRow(t, "the first number", put(t, 1, 1, ""), 1, 0, []api.Frame{of(1, 1, "")}, 22)
	wantRow(t, "no number is ahead of 0", nought, 1, 0, nil, 0)
	wantRow(t, "the last epoch", put(t, last, 1, ""), last, 0, []api.Frame{of(last, 1, "")}, 22)
}

// P8.4, P8.5: what ends a row: anything behind that begins no frame that goes on with it.
func TestScanEnds(t *testing.T) {
	row := []api.Frame{of(4, 8, ""), of(4, 9, "nine"), of(4, 10, string(make([]byte, 32)))}
	b := slices.Concat(bytesOf(row[0]), bytesOf(row[1]), bytesOf(row[2]))
	next := put(t, 4, 11, "eleven")
	turned := bytes.Clone(next)
	turned[20]++
	for what, behind := range map[string][]byte{
		"nothing":                 nil,
		"a nought":                {0},
		"noughts":                 make([]byte, 64),
		"a length that is none":   {33, 0},
		"a frame that is cut off": next[:len(next)-1],
		"a frame that is turned":  slices.Concat(turned, next),
		"a gap of one byte":       slices.Concat([]byte{0}, next),
		"a stale epoch":           slices.Concat(put(t, 3, 11, ""), next),
		"a later epoch":           put(t, 5, 11, ""),
		"the number again":        slices.Concat(put(t, 4, 10, ""), next),
		"a number left out":       put(t, 4, 12, ""),
		"an earlier number":       put(t, 4, 8, ""),
		"another number's bits":   put(t, 4, 11|1<<32, ""),
		"another epoch's bits":    put(t, 4|1<<32, 11, ""),
	} {
		wantRow(t, what, slices.Concat(b, behind), 4, 7, row, len(b))
	}
	wantRow(t, "one more", slices.Concat(b, next, []byte{1}), 4, 7, append(row, of(4, 11, "eleven")), len(b)+len(next))
	wantRow(t, "a nought ahead", slices.Concat([]byte{0}, b), 4, 7, nil, 0)
}

// P8.5: Scan of each beginning tells the beginning of what Scan tells of all.
func TestScanOfBeginnings(t *testing.T) {
	row := []api.Frame{of(1, 1, "a"), of(1, 2, ""), of(1, 3, "ccc"), of(1, 4, string(make([]byte, 32)))}
	var b []byte
	ends := []int{0}
	for _, f := range row {
		b = append(b, bytesOf(f)...)
		ends = append(ends, len(b))
	}
	b = append(b, 9, 9, 9)
	for n := range len(b) + 1 {
		k := 0
		for k < len(row) && ends[k+1] <= n {
			k++
		}
		wantRow(t, "a beginning", b[:n], 1, 0, row[:k], ends[k])
	}
}

// P8.4: a long log is gone through once, not once a frame.
func TestScanLong(t *testing.T) {
	var b []byte
	const count = 200000
	for i := range count {
		b = append(b, bytesOf(api.Frame{Epoch: 1, Seq: uint64(i + 1), Body: lowestFirst(uint64(i), i%5)})...)
	}
	l, n := frame.Scan(b, 1, 0)
	if len(l) != count || n != len(b) || l[count-1].Seq != count {
		t.Fatal("a long log:", len(l), n, len(b))
	}
	k := 0
	for _, f := range frame.Each(b, 1, 0) {
		k++
		if f.Seq != uint64(k) {
			t.Fatal("Each:", f.Seq, k)
		}
	}
	if k != count {
		t.Error("Each tells", k)
	}
}

// P8.4, R4: an iterator may be left early and gone through again, by two at once too; it is never nil.
func TestEach(t *testing.T) {
	b := slices.Concat(put(t, 1, 5, "a"), put(t, 1, 6, ""), put(t, 1, 7, "c"))
	it := frame.Each(b, 1, 4)
	for stop := range 4 {
		k := 0
		for at, f := range it {
			if at != []int{0, 23, 45}[k] || f.Seq != uint64(5+k) {
				t.Error("at", at, f)
			}
			if k == stop {
				break
			}
			k++
		}
		if k != min(stop, 3) {
			t.Error("left behind", k, "not", stop)
		}
	}
	pairs := 0
	for _, f := range it {
		for _, g := range it {
			if g.Seq != uint64(5+pairs%3) || f.Seq != uint64(5+pairs/3) {
				t.Error("two at once:", f.Seq, g.Seq)
			}
			pairs++
		}
	}
	if pairs != 9 {
		t.Error("two at once:", pairs)
	}
	for _, none := range [][]byte{nil, {}, {0}, make([]byte, 99)} {
		if frame.Each(none, 0, 0) == nil || frame.Each(none, 0, last) == nil {
			t.Fatal("an iterator is nil")
		}
		for at, f := range frame.Each(none, 0, 0) {
			t.Error("a frame of no frame's bytes:", at, f)
		}
	}
}

// P8.4: Each tells of b as it was when Each was called, and not what a caller made of a body.
func TestEachAsItWas(t *testing.T) {
	b := slices.Concat(put(t, 1, 5, "a"), put(t, 1, 6, "bb"))
	it := frame.Each(b, 1, 4)
	clear(b)
	for range 3 {
		var bodies []string
		for _, f := range it {
			bodies = append(bodies, string(f.Body))
			clear(f.Body)
			_ = append(f.Body, 9, 9, 9, 9, 9, 9, 9, 9)
		}
		if !slices.Equal(bodies, []string{"a", "bb"}) {
			t.Errorf("bodies %q", bodies)
		}
	}
	wantRow(t, "b itself, cleared", b, 1, 4, nil, 0)
}

// R3: what is handed in is not changed and not kept, nor the room behind it; what is answered is new memory.
func TestNothingShared(t *testing.T) {
	room := bytes.Repeat([]byte{'x'}, 64)
	f := api.Frame{Epoch: 1, Seq: 2, Body: room[:5]}
	b, _ := frame.Put(f)
	again, _ := frame.Put(f)
	if !bytes.Equal(room, bytes.Repeat([]byte{'x'}, 64)) {
		t.Error("Put changes what it is handed")
	}
	clear(room)
	if !bytes.Equal(b, bytesOf(of(1, 2, "xxxxx"))) {
		t.Error("Put keeps the body")
	}
	clear(again)
	wantRow(t, "another answer is cleared", b, 1, 1, []api.Frame{of(1, 2, "xxxxx")}, 27)

	log := append(bytes.Clone(b), put(t, 1, 3, "yy")...)
	log = append(log, 1, 2, 3)
	was := bytes.Clone(log)
	got, _, _ := frame.Get(log[:27])
	row, _ := frame.Scan(log[:len(log)-3], 1, 1)
	got.Body = append(got.Body, "zzzz"...)
	row[0].Body = append(row[0].Body, bytes.Repeat([]byte{'z'}, 40)...)
	clear(row[0].Body)
	clear(got.Body)
	if !bytes.Equal(log, was) {
		t.Error("what is written into an answer shows in the bytes")
	}
	if string(row[1].Body) != "yy" {
		t.Errorf("two bodies share memory: %q", row[1].Body)
	}
	clear(log)
	if string(row[1].Body) != "yy" {
		t.Errorf("a body shares memory with the bytes: %q", row[1].Body)
	}
}

// R7: calls may be made at one time, also on the same bytes.
func TestAtOneTime(t *testing.T) {
	b := slices.Concat(put(t, 1, 5, "a"), put(t, 1, 6, "bb"), put(t, 2, 7, "c"))
	row := []api.Frame{of(1, 5, "a"), of(1, 6, "bb")}
	var wait sync.WaitGroup
	for range 8 {
		wait.Go(func() {
			for range 100 {
				l, n := frame.Scan(b, 1, 4)
				if !slices.EqualFunc(l, row, same) || n != 47 {
					t.Error("Scan:", l, n)
				}
				k := 0
				for _, f := range frame.Each(b, 1, 4) {
					if !same(f, row[k]) {
						t.Error("Each:", f)
					}
					k++
				}
			}
		})
	}
	wait.Wait()
}

package frame_test

import (
	"bytes"
	"slices"
	"testing"

	"gangway/api"
	"gangway/crc"
	"gangway/frame"
)

// The document's words, byte by byte: what the package is held against.

// lowestFirst is n in so many bytes.
func lowestFirst(n uint64, size int) []byte {
	var b []byte
	for range size {
		b = append(b, byte(n%256))
		n /= 256
	}
	return b
}

// bytesOf is what a frame's bytes are, whose body is not too long.
func bytesOf(f api.Frame) []byte {
	b := slices.Concat(lowestFirst(uint64(len(f.Body)), 2), lowestFirst(f.Epoch, 8), lowestFirst(f.Seq, 8), f.Body)
	return append(b, lowestFirst(uint64(crc.Sum(b)), 4)...)
}

func numberOf(b []byte) uint64 {
	n := uint64(0)
	for i := len(b) - 1; i >= 0; i-- {
		n = n*256 + uint64(b[i])
	}
	return n
}

func getOf(b []byte) (api.Frame, int, api.Errno) {
	if len(b) < 2 {
		return api.Frame{}, 0, api.ErrShort
	}
	length := int(b[0]) + 256*int(b[1])
	if length > 32 {
		return api.Frame{}, 0, api.ErrLength
	}
	if len(b) < 22+length {
		return api.Frame{}, 0, api.ErrShort
	}
	if numberOf(b[18+length:22+length]) != uint64(crc.Sum(b[:18+length])) {
		return api.Frame{}, 0, api.ErrSum
	}
	return api.Frame{Epoch: numberOf(b[2:10]), Seq: numberOf(b[10:18]), Body: b[18 : 18+length]}, 22 + length, api.OK
}

// scanOf is the row at the begin of b: its first frame, if that may be, and the row behind it.
func scanOf(b []byte, epoch, seq uint64) ([]api.Frame, int) {
	f, n, err := getOf(b)
	if err != api.OK || f.Epoch != epoch || f.Seq == 0 || f.Seq-1 != seq {
		return nil, 0
	}
	row, end := scanOf(b[n:], epoch, f.Seq)
	return append([]api.Frame{f}, row...), n + end
}

func same(f, g api.Frame) bool {
	return f.Epoch == g.Epoch && f.Seq == g.Seq && bytes.Equal(f.Body, g.Body)
}

func wantGet(t *testing.T, b []byte) {
	t.Helper()
	f, n, err := frame.Get(b)
	if want, size, wantErr := getOf(b); !same(f, want) || n != size || err != wantErr {
		t.Fatalf("Get(%v): %v, %d, %d, want %v, %d, %d", b, f, n, err, want, size, wantErr)
	}
}

// wantRow holds Scan and Each against the frames and the bytes' number that they must tell.
func wantRow(t *testing.T, what string, b []byte, epoch, seq uint64, row []api.Frame, end int) {
	t.Helper()
	l, n := frame.Scan(b, epoch, seq)
	if !slices.EqualFunc(l, row, same) || n != end {
		t.Fatalf("%s: Scan of the epoch %d behind %d: %v, %d, want %v, %d", what, epoch, seq, l, n, row, end)
	}
	at, k := 0, 0
	for place, f := range frame.Each(b, epoch, seq) {
		if k == len(row) || place != at || !same(f, row[k]) {
			t.Fatalf("%s: Each of the epoch %d behind %d: frame %d at %d: %v; %d frames are wanted, this one at %d",
				what, epoch, seq, k, place, f, len(row), at)
		}
		at += 22 + len(f.Body)
		k++
	}
	if k != len(row) {
		t.Fatalf("%s: Each tells %d frames, want %d", what, k, len(row))
	}
}

// numbers answers a function that tells numbers below a bound, the same ones for one seed.
func numbers(seed uint64) func(below int) int {
	n := seed
	return func(below int) int {
		n = n*6364136223846793005 + 1442695040888963407
		return int(n >> 33 % uint64(below))
	}
}

func someBytes(chance func(int) int, count int) []byte {
	b := make([]byte, count)
	for i := range b {
		b[i] = byte(chance(256))
	}
	return b
}

// edges are numbers at which one byte more or less, or one more at all, goes wrong first.
func edges() []uint64 {
	l := []uint64{0, 1<<64 - 1, 1<<64 - 2, 0x0102030405060708}
	for i := range 64 {
		l = append(l, 1<<i)
	}
	return l
}

// P8.2, P8.3, P8.5: frames of every length and of any numbers, there and back, with anything behind.
func TestThereAndBack(t *testing.T) {
	chance := numbers(1)
	for n := range api.MaxBody + 1 {
		for i, x := range edges() {
			f := api.Frame{Epoch: x, Seq: edges()[(i*7+n)%len(edges())], Body: someBytes(chance, n)}
			b, err := frame.Put(f)
			if err != api.OK || !bytes.Equal(b, bytesOf(f)) || len(b) != frame.Size(n) {
				t.Fatalf("Put(%v): %v, %d, want %v", f, b, err, bytesOf(f))
			}
			for _, behind := range []int{0, 1, 2, 21, 22, 60, 200} {
				got, size, err := frame.Get(slices.Concat(b, someBytes(chance, behind)))
				if err != api.OK || size != len(b) || !same(got, f) {
					t.Fatalf("Get of %v, %d bytes behind: %v, %d, %d", f, behind, got, size, err)
				}
			}
		}
	}
}

// P8.3: bytes of every kind, nearly frames among them.
func TestGetAsModel(t *testing.T) {
	chance := numbers(2)
	for range 20000 {
		b := someBytes(chance, chance(70))
		if len(b) > 1 && chance(4) > 0 {
			b[0], b[1] = byte(chance(35)), byte(chance(8)/7)
		}
		if n := 22 + numberOf(b[:min(len(b), 2)]); n < 22+33 && int(n) <= len(b) && chance(3) > 0 {
			copy(b[n-4:], lowestFirst(uint64(crc.Sum(b[:n-4])), 4))
		}
		wantGet(t, b)
		if f, n, err := frame.Get(b); err == api.OK { // P8.5: what is read is written as the same bytes
			if again, err := frame.Put(f); err != api.OK || !bytes.Equal(again, b[:n]) {
				t.Fatalf("Put of what was read of %v: %v, %d", b[:n], again, err)
			}
		}
	}
}

// someRow answers frames' bytes one behind the other, some of which do not go on from the one ahead.
func someRow(chance func(int) int, epoch, seq uint64) []byte {
	var b []byte
	for range chance(8) {
		seq++
		f := api.Frame{Epoch: epoch, Seq: seq, Body: someBytes(chance, chance(33))}
		switch chance(24) {
		case 0:
			f.Seq += uint64(chance(5)) - 2
		case 1:
			f.Epoch += uint64(chance(3)) - 1
		case 2:
			b = append(b, 0)
		}
		b = append(b, bytesOf(f)...)
		if chance(24) == 0 {
			b[len(b)-1-chance(22)] ^= byte(1 + chance(255))
		}
	}
	return append(b, someBytes(chance, chance(60))...)
}

// P8.4: rows of every kind, from numbers at both ends too; and each beginning of them (P8.5).
func TestScanAsModel(t *testing.T) {
	chance := numbers(3)
	for range 1500 {
		epoch, seq := uint64(chance(3))-1, uint64(chance(9))-6
		b := someRow(chance, epoch, seq)
		row, end := scanOf(b, epoch, seq)
		wantRow(t, "a row", b, epoch, seq, row, end)
		for _, c := range [][2]uint64{{epoch, seq + 1}, {epoch, seq - 1}, {epoch + 1, seq}, {epoch - 1, seq}} {
			other, end := scanOf(b, c[0], c[1])
			wantRow(t, "asked otherwise", b, c[0], c[1], other, end)
		}
		cut := b[:chance(len(b)+1)]
		k, at := 0, 0
		for k < len(row) && at+22+len(row[k].Body) <= len(cut) {
			at += 22 + len(row[k].Body)
			k++
		}
		wantRow(t, "a row that is cut off", cut, epoch, seq, row[:k], at)
	}
}

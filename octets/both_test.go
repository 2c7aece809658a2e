package octets_test

import (
	"bytes"
	"testing"

	"gangway/api"
	"gangway/octets"
)

// piece is a number of a size, or, where that is 0, a row of bytes.
type piece struct {
	size   int
	number uint64
	row    []byte
}

// steps hands out numbers that look like chance, and are the same in each run.
type steps uint64

func (s *steps) next() uint64 {
	*s = *s*6364136223846793005 + 1442695040888963407
	x := uint64(*s)
	return (x ^ x>>29) * 0x9E3779B97F4A7C15
}

func pieces(s *steps, count int) []piece {
	var l []piece
	for range count {
		switch size := []int{0, 1, 2, 4, 8}[s.next()>>32%5]; size {
		case 0:
			row := make([]byte, s.next()>>32%100)
			for i := range row {
				row[i] = byte(s.next() >> 32)
			}
			l = append(l, piece{row: row})
		default:
			l = append(l, piece{size: size, number: s.next() >> (64 - 8*size)})
		}
	}
	return l
}

func (p piece) put(w *octets.Writer) {
	switch p.size {
	case 0:
		w.Put(p.row)
	case 1:
		w.Byte(byte(p.number))
	case 2:
		w.Two(uint16(p.number))
	case 4:
		w.Four(uint32(p.number))
	case 8:
		w.Eight(p.number)
	}
}

// bytes is what the document says of the piece, told without a Writer.
func (p piece) bytes() []byte {
	if p.size == 0 {
		return p.row
	}
	var b []byte
	n := p.number
	for range p.size {
		b = append(b, byte(n%256))
		n /= 256
	}
	return b
}

func (p piece) isNext(r *octets.Reader) bool {
	for _, c := range numbers {
		if c.size == p.size {
			return c.read(r) == p.number
		}
	}
	return bytes.Equal(r.Take(len(p.row)), p.row)
}

// P1.6: what was put is read as it was, by the same sizes, and then End is OK.
func TestThereAndBack(t *testing.T) {
	s := steps(1)
	for count := range 120 {
		l := pieces(&s, count)
		var w octets.Writer
		var want []byte
		for _, p := range l {
			p.put(&w)
			want = append(want, p.bytes()...)
			if w.Len() != len(want) {
				t.Fatal("Len", w.Len(), len(want))
			}
		}
		wantHeld(t, "what was put", &w, want)
		r := octets.Of(w.Out())
		left := len(want)
		for i, p := range l {
			if !p.isNext(r) {
				t.Fatalf("piece %d of %d is read otherwise", i, count)
			}
			left -= len(p.bytes())
			if r.Left() != left || r.Err() != api.OK {
				t.Fatal("Left", r.Left(), left, r.Err())
			}
		}
		wantState(t, "all read", r, 0, api.OK, api.OK)
	}
}

// P1.3, P1.6: a row that is cut off anywhere is read up to the piece that isn't whole; the bytes stay.
func TestCutOff(t *testing.T) {
	s := steps(2)
	l := pieces(&s, 12)
	var w octets.Writer
	for _, p := range l {
		p.put(&w)
	}
	all := w.Out()
	for n := range all {
		given := bytes.Clone(all[:n])
		r := octets.Of(given)
		at := 0
		for _, p := range l {
			at += len(p.bytes())
			if at > n {
				if p.size != 0 && p.isNext(r) && p.number != 0 {
					t.Error("a number is read that is not there")
				}
				if p.size == 0 && len(r.Take(len(p.row))) != 0 {
					t.Error("bytes are read that are not there")
				}
				break
			}
			if !p.isNext(r) {
				t.Fatal("a whole piece is read otherwise", n)
			}
		}
		wantFailed(t, "cut off", r, api.ErrShort)
		wantBytes(t, "the bytes", given, all[:n])
	}
}

package octets_test

import (
	"bytes"
	"math"
	"sync"
	"testing"

	"gangway/octets"
)

// rising is n bytes, of which no two neighbours are alike.
func rising(n int) []byte {
	b := make([]byte, n)
	for i := range b {
		b[i] = byte(i*7 + 1)
	}
	return b
}

func wantBytes(t *testing.T, what string, got, want []byte) {
	t.Helper()
	if !bytes.Equal(got, want) {
		t.Errorf("%s: got %v, want %v", what, got, want)
	}
}

func wantHeld(t *testing.T, what string, w *octets.Writer, want []byte) {
	t.Helper()
	wantBytes(t, what+": Out", w.Out(), want)
	if w.Len() != len(want) {
		t.Errorf("%s: Len %d, want %d", what, w.Len(), len(want))
	}
}

// P1.1: the chapter's first example.
func TestWriteExample(t *testing.T) {
	var w octets.Writer
	w.Byte(7)
	w.Two(258)
	w.Four(1)
	w.Put([]byte{9, 9})
	wantHeld(t, "example", &w, []byte{7, 2, 1, 1, 0, 0, 0, 9, 9})
	var v octets.Writer
	v.Eight(1<<63 + 5)
	wantHeld(t, "eight", &v, []byte{5, 0, 0, 0, 0, 0, 0, 128})
}

// P1.1: the lowest byte comes first, at the least, the greatest and at numbers of unlike bytes.
func TestWriteNumbers(t *testing.T) {
	cases := []struct {
		name string
		put  func(w *octets.Writer)
		want []byte
	}{
		{"byte 0", func(w *octets.Writer) { w.Byte(0) }, []byte{0}},
		{"byte 255", func(w *octets.Writer) { w.Byte(255) }, []byte{255}},
		{"two 0", func(w *octets.Writer) { w.Two(0) }, []byte{0, 0}},
		{"two", func(w *octets.Writer) { w.Two(0x0201) }, []byte{1, 2}},
		{"two max", func(w *octets.Writer) { w.Two(math.MaxUint16) }, []byte{255, 255}},
		{"four 0", func(w *octets.Writer) { w.Four(0) }, make([]byte, 4)},
		{"four", func(w *octets.Writer) { w.Four(0x84030201) }, []byte{1, 2, 3, 0x84}},
		{"four max", func(w *octets.Writer) { w.Four(math.MaxUint32) }, bytes.Repeat([]byte{255}, 4)},
		{"eight 0", func(w *octets.Writer) { w.Eight(0) }, make([]byte, 8)},
		{"eight", func(w *octets.Writer) { w.Eight(0x8807060504030201) }, []byte{1, 2, 3, 4, 5, 6, 7, 0x88}},
		{"eight max", func(w *octets.Writer) { w.Eight(math.MaxUint64) }, bytes.Repeat([]byte{255}, 8)},
		{"put nil", func(w *octets.Writer) { w.Put(nil) }, nil},
		{"put none", func(w *octets.Writer) { w.Put([]byte{}) }, nil},
		{"put", func(w *octets.Writer) { w.Put([]byte{3, 1, 2}) }, []byte{3, 1, 2}},
	}
	for _, c := range cases {
		var w octets.Writer
		c.put(&w)
		wantHeld(t, c.name, &w, c.want)
		c.put(&w)
		wantHeld(t, c.name+" twice", &w, append(bytes.Clone(c.want), c.want...))
	}
}

// P1.1: a fresh Writer is ready and has no bytes.
func TestWriteNothing(t *testing.T) {
	var w octets.Writer
	wantHeld(t, "zero value", &w, nil)
	wantHeld(t, "new", new(octets.Writer), nil)
}

// P1.1: any length, put at once, in two parts, or byte by byte.
func TestWriteLengths(t *testing.T) {
	for n := range 300 {
		all := rising(n)
		var whole, single octets.Writer
		whole.Put(all)
		for _, b := range all {
			single.Byte(b)
		}
		wantHeld(t, "whole", &whole, all)
		wantHeld(t, "single", &single, all)
		for cut := 0; cut <= n; cut += 13 {
			var parts octets.Writer
			parts.Put(all[:cut])
			parts.Put(all[cut:])
			wantHeld(t, "parts", &parts, all)
		}
	}
	long := rising(1<<20 + 3)
	var w octets.Writer
	w.Put(long)
	w.Eight(1)
	if got := w.Out(); !bytes.Equal(got, append(long, 1, 0, 0, 0, 0, 0, 0, 0)) {
		t.Error("a long row is not as it was put")
	}
}

// P1.1: numbers that come to lie over any place of the row.
func TestWriteNumbersAnywhere(t *testing.T) {
	for n := range 200 {
		var w octets.Writer
		w.Put(rising(n))
		w.Eight(0x0807060504030201)
		w.Two(0x0A09)
		wantHeld(t, "anywhere", &w, append(rising(n), 1, 2, 3, 4, 5, 6, 7, 8, 9, 10))
	}
}

// P1.1: asking changes nothing.
func TestWriteAskedAgain(t *testing.T) {
	var w octets.Writer
	w.Put(rising(70))
	for range 3 {
		wantHeld(t, "again", &w, rising(70))
	}
	w.Byte(1)
	wantHeld(t, "and on", &w, append(rising(70), 1))
}

// P1.1: a copy has the same bytes, and each one's later bytes are its own, whoever goes first.
func TestWriterCopies(t *testing.T) {
	for n := range 200 {
		for _, more := range []int{1, 2, 63, 64, 65, 130} {
			var first octets.Writer
			first.Put(rising(n))
			second := first
			wantHeld(t, "copy", &second, rising(n))
			ones, twos := bytes.Repeat([]byte{1}, more), bytes.Repeat([]byte{2}, more)
			first.Put(ones)
			wantHeld(t, "copy, untouched", &second, rising(n))
			second.Put(twos)
			wantHeld(t, "first", &first, append(rising(n), ones...))
			wantHeld(t, "second", &second, append(rising(n), twos...))
			first.Byte(3)
			wantHeld(t, "second, again", &second, append(rising(n), twos...))
			second.Two(4)
			wantHeld(t, "first, again", &first, append(append(rising(n), ones...), 3))
		}
	}
}

// P1.1: a copy that is put back into its Writer does not reach into copies that were made since.
func TestWriterPutBack(t *testing.T) {
	for n := range 200 {
		var w octets.Writer
		w.Put(rising(n))
		before := w
		w.Four(0x01010101)
		after := w
		w = before
		wantHeld(t, "put back", &w, rising(n))
		w.Four(0x02020202)
		wantHeld(t, "after", &after, append(rising(n), 1, 1, 1, 1))
		wantHeld(t, "w", &w, append(rising(n), 2, 2, 2, 2))
		wantHeld(t, "before", &before, rising(n))
	}
}

// P1.1, R7: copies are Writers of their own, which may be used at one time.
func TestWriterCopiesAtOneTime(t *testing.T) {
	var w octets.Writer
	w.Put(rising(100))
	var all [8]octets.Writer
	var group sync.WaitGroup
	for i := range all {
		all[i] = w
		group.Go(func() {
			for range 500 {
				all[i].Two(uint16(i))
			}
		})
	}
	group.Wait()
	for i := range all {
		wantHeld(t, "at one time", &all[i], append(rising(100), bytes.Repeat([]byte{byte(i), 0}, 500)...))
	}
	wantHeld(t, "their source", &w, rising(100))
}

// R3: what Out answers is new memory, with its room behind.
func TestOutIsNew(t *testing.T) {
	for _, n := range []int{1, 10, 63, 64, 65, 150} {
		var w octets.Writer
		w.Put(rising(n))
		one, two := w.Out(), w.Out()
		clear(one)
		one = append(one, 77, 77)
		clear(one[:cap(one)])
		wantBytes(t, "the other answer", two, rising(n))
		wantHeld(t, "the writer", &w, rising(n))
		w.Byte(5)
		w.Put(rising(200))
		wantBytes(t, "an answer, behind later bytes", two, rising(n))
		wantHeld(t, "the writer, later", &w, append(append(rising(n), 5), rising(200)...))
	}
}

// R3: what is put is neither kept nor changed, nor is the room behind its end.
func TestPutKeepsNothing(t *testing.T) {
	for _, n := range []int{0, 1, 5, 63, 64, 65, 150} {
		room := rising(n + 80)
		given := room[:n]
		var w octets.Writer
		w.Put(given)
		w.Eight(math.MaxUint64)
		w.Put(given)
		wantBytes(t, "the argument and its room", room, rising(n+80))
		want := append(append(rising(n), bytes.Repeat([]byte{255}, 8)...), rising(n)...)
		clear(room)
		wantHeld(t, "the writer", &w, want)
	}
}

// P1.1: a Writer's own bytes may be put to it.
func TestPutOwnBytes(t *testing.T) {
	var w octets.Writer
	want := []byte{1, 2, 3}
	w.Put(want)
	for range 6 {
		w.Put(w.Out())
		want = append(want, want...)
		wantHeld(t, "doubled", &w, want)
	}
}

// P1.5: a Writer that is nil takes nothing.
func TestNilWriter(t *testing.T) {
	var w *octets.Writer
	wantHeld(t, "nil", w, nil)
	w.Byte(1)
	w.Two(2)
	w.Four(3)
	w.Eight(4)
	w.Put([]byte{5})
	w.Put(nil)
	wantHeld(t, "nil, put to", w, nil)
}

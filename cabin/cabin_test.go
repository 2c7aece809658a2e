package cabin_test

import (
	"math"
	"slices"
	"strings"
	"sync"
	"testing"

	"gangway/api"
	"gangway/cabin"
)

func cabinOf(rows, wide int, aisles ...int) api.Cabin {
	return api.Cabin{Rows: rows, Wide: wide, Aisles: aisles}
}

// thirty is the cabin of the chapter's examples.
func thirty() api.Cabin {
	return cabinOf(30, 6, 3)
}

func wantText(t *testing.T, c api.Cabin, seat int, want string) {
	t.Helper()
	if s, err := cabin.Text(c, seat); s != want || err != api.OK {
		t.Errorf("Text(%v, %d): %q, %d, want %q", c, seat, s, err, want)
	}
	if n, err := cabin.Parse(c, want); n != seat || err != api.OK {
		t.Errorf("Parse(%v, %q): %d, %d, want %d", c, want, n, err, seat)
	}
}

func wantNoText(t *testing.T, c api.Cabin, s string) {
	t.Helper()
	if n, err := cabin.Parse(c, s); n != 0 || err != api.ErrSeat {
		t.Errorf("Parse(%v, %q): %d, %d", c, s, n, err)
	}
}

func wantBeside(t *testing.T, c api.Cabin, a, b int, want bool) {
	t.Helper()
	if ok, err := cabin.Beside(c, a, b); ok != want || err != api.OK {
		t.Errorf("Beside(%v, %d, %d): %v, %d, want %v", c, a, b, ok, err, want)
	}
}

func wantWindow(t *testing.T, c api.Cabin, seat int, window, aisle bool) {
	t.Helper()
	if w, a, err := cabin.Window(c, seat); w != window || a != aisle || err != api.OK {
		t.Errorf("Window(%v, %d): %v, %v, %d, want %v, %v", c, seat, w, a, err, window, aisle)
	}
}

func wantBlocks(t *testing.T, c api.Cabin, want ...api.Span) {
	t.Helper()
	if l, err := cabin.Blocks(c); !slices.Equal(l, want) || err != api.OK {
		t.Errorf("Blocks(%v): %v, %d, want %v", c, l, err, want)
	}
}

// wantRefused: every call but Check and Seats tells that error, and zeros beside it.
func wantRefused(t *testing.T, c api.Cabin, a, b int, want api.Errno) {
	t.Helper()
	if ok, err := cabin.Beside(c, a, b); ok || err != want {
		t.Errorf("Beside(%v, %d, %d): %v, %d, want %d", c, a, b, ok, err, want)
	}
	if ok, err := cabin.Beside(c, b, a); ok || err != want {
		t.Errorf("Beside(%v, %d, %d): %v, %d, want %d", c, b, a, ok, err, want)
	}
	if s, err := cabin.Text(c, a); s != "" || err != want {
		t.Errorf("Text(%v, %d): %q, %d, want %d", c, a, s, err, want)
	}
	if row, column, err := cabin.Place(c, a); row != 0 || column != 0 || err != want {
		t.Errorf("Place(%v, %d): %d, %d, %d, want %d", c, a, row, column, err, want)
	}
	if w, x, err := cabin.Window(c, a); w || x || err != want {
		t.Errorf("Window(%v, %d): %v, %v, %d, want %d", c, a, w, x, err, want)
	}
}

// P14.2: the chapter's first example.
func TestNames(t *testing.T) {
	c := thirty()
	if n, err := cabin.Seats(c); n != 180 || err != api.OK {
		t.Errorf("Seats: %d, %d", n, err)
	}
	for seat, want := range map[int]string{0: "1A", 5: "1F", 6: "2A", 8: "2C", 53: "9F", 54: "10A", 179: "30F"} {
		wantText(t, c, seat, want)
	}
	for _, s := range []string{"30G", "31A", "0A", "01A", "1a", "1", "A", "1AA", ""} {
		wantNoText(t, c, s)
	}
	for k, letter := range "ABCDEFGHJKLMNOPQ" {
		wantText(t, cabinOf(1, 16), k, "1"+string(letter))
		wantText(t, cabinOf(64, 16, 4, 12), 1008+k, "64"+string(letter))
	}
	wantNoText(t, cabinOf(64, 16), "1I")
	wantNoText(t, cabinOf(64, 16), "1R")
}

// P14.2, R8: texts that are no seat's, of bytes of any kind and any length.
func TestNoNames(t *testing.T) {
	for _, s := range []string{"+1A", "-1A", "-0A", "+0A", "0", "00A", "001A", "1 A", " 1A", "1A ", "1A\n", "1_0A", "1_A", "_1A", "0x1A", "1.A", "1e0A",
		"A1", "AA", "1AB", "10", "1٣A", "٣A", "1\x00A", "1A\x00", "1\xc1", "1\xff", "\xff\xff", "Ⅰ", "1Ａ", "65A", "100A", "1I", "1i", "1q", "1@", "1R", "1Z",
		"9223372036854775807A", "9223372036854775808A", "18446744073709551617A", "4294967297A", "-9223372036854775808A",
		strings.Repeat("0", 70000) + "1A", strings.Repeat("1", 70000) + "A", strings.Repeat("A", 70000)} {
		wantNoText(t, cabinOf(64, 16, 3, 7), s)
	}
}

// P14.2: a letter or a row that is there in another cabin, but not in this one.
func TestNamesOfOtherCabins(t *testing.T) {
	const letters = "ABCDEFGHJKLMNOPQ"
	for wide := 1; wide < 16; wide++ {
		wantText(t, cabinOf(2, wide), wide-1, "1"+letters[wide-1:wide])
		wantNoText(t, cabinOf(2, wide), "1"+letters[wide:wide+1])
		wantNoText(t, cabinOf(2, wide), "3A")
	}
}

// P14.3: the chapter's second example, either way round.
func TestPlaces(t *testing.T) {
	c := thirty()
	for seat, want := range map[int][2]int{0: {0, 0}, 5: {0, 5}, 6: {1, 0}, 8: {1, 2}, 179: {29, 5}} {
		if row, column, err := cabin.Place(c, seat); row != want[0] || column != want[1] || err != api.OK {
			t.Errorf("Place(%d): %d, %d, %d", seat, row, column, err)
		}
	}
	for _, x := range []struct {
		a, b int
		want bool
	}{{7, 8, true}, {8, 9, false}, {5, 6, false}, {8, 8, false}, {6, 8, false}, {2, 8, false}, {178, 179, true}, {0, 179, false}, {0, 0, false}} {
		wantBeside(t, c, x.a, x.b, x.want)
		wantBeside(t, c, x.b, x.a, x.want)
	}
	wantWindow(t, c, 6, true, false)
	wantWindow(t, c, 7, false, false)
	wantWindow(t, c, 8, false, true)
	wantWindow(t, c, 9, false, true)
	wantWindow(t, c, 10, false, false)
	wantWindow(t, c, 11, true, false)
}

// P14.3: a seat may stand at a window and at an aisle, or between two aisles; at a row's ends no aisle lies.
func TestWindowAndAisle(t *testing.T) {
	c := cabinOf(2, 4, 1, 2, 3)
	for _, first := range []int{0, 4} {
		wantWindow(t, c, first, true, true)
		wantWindow(t, c, first+1, false, true)
		wantWindow(t, c, first+2, false, true)
		wantWindow(t, c, first+3, true, true)
	}
	wide := cabinOf(1, 16, 15)
	wantWindow(t, wide, 0, true, false)
	wantWindow(t, wide, 14, false, true)
	wantWindow(t, wide, 15, true, true)
	wantWindow(t, cabinOf(3, 1), 1, true, false)
	wantWindow(t, cabinOf(3, 2), 2, true, false)
	wantWindow(t, cabinOf(3, 2), 3, true, false)
}

// P14.2, P14.3, R2: numbers that are no seats, beside seats and beside one another.
func TestNoSeat(t *testing.T) {
	for _, c := range []api.Cabin{thirty(), cabinOf(1, 1), cabinOf(64, 16, 1, 15), cabinOf(64, 1), cabinOf(1, 16)} {
		seats := c.Rows * c.Wide
		for _, none := range []int{-1, seats, seats + 1, -seats, math.MinInt, math.MaxInt, math.MinInt + 1} {
			for _, other := range []int{0, seats - 1, none, -1, seats, none ^ 1} {
				wantRefused(t, c, none, other, api.ErrSeat)
			}
		}
	}
}

// P14.4: the chapter's third example; a row without an aisle is one block, and so is each seat between aisles.
func TestBlocks(t *testing.T) {
	wantBlocks(t, cabinOf(2, 4, 1, 3), api.Span{From: 0, Count: 1}, api.Span{From: 1, Count: 2}, api.Span{From: 3, Count: 1},
		api.Span{From: 4, Count: 1}, api.Span{From: 5, Count: 2}, api.Span{From: 7, Count: 1})
	wantBlocks(t, cabinOf(1, 1), api.Span{From: 0, Count: 1})
	wantBlocks(t, cabinOf(3, 1), api.Span{From: 0, Count: 1}, api.Span{From: 1, Count: 1}, api.Span{From: 2, Count: 1})
	wantBlocks(t, cabinOf(2, 16), api.Span{From: 0, Count: 16}, api.Span{From: 16, Count: 16})
	wantBlocks(t, cabinOf(1, 3, 1, 2), api.Span{From: 0, Count: 1}, api.Span{From: 1, Count: 1}, api.Span{From: 2, Count: 1})
	wantBlocks(t, cabinOf(1, 16, 15), api.Span{From: 0, Count: 15}, api.Span{From: 15, Count: 1})
}

// P14.1: rows and seats of a row at the limits, and as many aisles as may be.
func TestCabins(t *testing.T) {
	all := []int{1, 2, 3, 4, 5, 6, 7, 8, 9, 10, 11, 12, 13, 14, 15}
	for _, c := range []api.Cabin{thirty(), cabinOf(1, 1), cabinOf(64, 16), cabinOf(64, 1), cabinOf(1, 16), cabinOf(64, 16, all...),
		cabinOf(1, 2, 1), cabinOf(64, 16, 1), cabinOf(64, 16, 15), {Rows: 2, Wide: 3, Aisles: []int{}}} {
		if err := cabin.Check(c); err != api.OK {
			t.Errorf("Check(%v): %d", c, err)
		}
		if n, err := cabin.Seats(c); n != c.Rows*c.Wide || err != api.OK {
			t.Errorf("Seats(%v): %d, %d", c, n, err)
		}
		if l, err := cabin.Blocks(c); len(l) != c.Rows*(1+len(c.Aisles)) || err != api.OK {
			t.Errorf("Blocks(%v): %v, %d", c, l, err)
		}
	}
}

// noCabins are those of the chapter's fourth example, and others that may not be.
func noCabins() []api.Cabin {
	return []api.Cabin{{}, cabinOf(0, 6), cabinOf(65, 6), cabinOf(30, 17), cabinOf(30, 0), cabinOf(-1, 6), cabinOf(30, -6), cabinOf(-1, -1),
		cabinOf(30, 6, 3, 3), cabinOf(30, 6, 0), cabinOf(30, 6, 6), cabinOf(30, 6, 4, 2), cabinOf(30, 6, -1), cabinOf(30, 6, 7),
		cabinOf(30, 6, 0, 3), cabinOf(30, 6, 3, 6), cabinOf(30, 6, 2, 4, 3), cabinOf(30, 6, 2, 4, 4), cabinOf(3, 1, 1), cabinOf(3, 1, 0),
		cabinOf(30, 16, 16), cabinOf(30, 6, 1, 17), cabinOf(30, 17, 16), cabinOf(65, 16), cabinOf(64, 17),
		cabinOf(math.MaxInt, 6), cabinOf(30, math.MaxInt), cabinOf(math.MinInt, math.MinInt), cabinOf(1<<32, 1<<32), cabinOf(1<<62, 4),
		cabinOf(30, 6, math.MaxInt), cabinOf(30, 6, math.MinInt), cabinOf(30, 6, 3, math.MinInt), {Rows: 30, Wide: 6, Aisles: make([]int, 70000)}}
}

// P14.1, R2: every call refuses a cabin that may not be, ahead of all else, with zeros beside the error.
func TestNoCabins(t *testing.T) {
	for _, c := range noCabins() {
		if err := cabin.Check(c); err != api.ErrArg {
			t.Errorf("Check(%v): %d", c, err)
		}
		if n, err := cabin.Seats(c); n != 0 || err != api.ErrArg {
			t.Errorf("Seats(%v): %d, %d", c, n, err)
		}
		if l, err := cabin.Blocks(c); len(l) != 0 || err != api.ErrArg {
			t.Errorf("Blocks(%v): %v, %d", c, l, err)
		}
		for _, s := range []string{"", "1A", "2C", "1I", "99Z"} {
			if n, err := cabin.Parse(c, s); n != 0 || err != api.ErrArg {
				t.Errorf("Parse(%v, %q): %d, %d", c, s, n, err)
			}
		}
		for _, seat := range []int{-1, 0, 1, 8, 5000, math.MinInt, math.MaxInt} {
			wantRefused(t, c, seat, 1, api.ErrArg)
			wantRefused(t, c, seat, -1, api.ErrArg)
		}
	}
}

// R3: the aisles that are handed in are not changed, nor the room behind their end; an answer is new memory.
func TestMemory(t *testing.T) {
	room := []int{2, 5, 9, 9}
	c := api.Cabin{Rows: 2, Wide: 8, Aisles: room[:2]}
	first, _ := cabin.Blocks(c)
	want := slices.Clone(first)
	for k := range first {
		first[k] = api.Span{From: -1, Count: -1}
	}
	wantBlocks(t, c, want...)
	cabin.Check(c)
	cabin.Seats(c)
	wantText(t, c, 9, "2B")
	wantBeside(t, c, 9, 10, false)
	wantWindow(t, c, 9, false, true)
	if !slices.Equal(room, []int{2, 5, 9, 9}) {
		t.Errorf("the aisles are %v", room)
	}
	room[0] = 1 // what was handed in earlier is not kept
	wantBeside(t, c, 9, 10, true)
	wantBeside(t, c, 8, 9, false)
}

// R6, R7: calls may be made at one time, and answer as they do one by one.
func TestAtOneTime(t *testing.T) {
	var wait sync.WaitGroup
	c := cabinOf(64, 16, 3, 13)
	for range 8 {
		wait.Go(func() {
			for seat := range 1024 {
				s, _ := cabin.Text(c, seat)
				if n, err := cabin.Parse(c, s); n != seat || err != api.OK {
					t.Errorf("Parse(%q): %d, %d", s, n, err)
				}
			}
			if l, err := cabin.Blocks(c); len(l) != 192 || err != api.OK {
				t.Errorf("%d blocks, %d", len(l), err)
			}
		})
	}
	wait.Wait()
}

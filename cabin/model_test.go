package cabin_test

import (
	"slices"
	"testing"

	"gangway/api"
	"gangway/cabin"
)

// drawn is a cabin as a picture of one row behind the other, as they stand: each seat is its number, each
// aisle a gap, each wall a wall. What is told of a seat is read off what stands next to it there.
type drawn []int

const (
	gap  = -1
	wall = -2
)

// draw walks through the rows, column by column.
func draw(c api.Cabin) drawn {
	var d drawn
	seat := 0
	for range c.Rows {
		d = append(d, wall)
		for column := range c.Wide {
			if slices.Contains(c.Aisles, column) {
				d = append(d, gap)
			}
			d = append(d, seat)
			seat++
		}
		d = append(d, wall)
	}
	return d
}

// next tells whether that, another seat, a gap or a wall, stands right ahead of the seat or behind it.
func (d drawn) next(seat, what int) bool {
	at := slices.Index(d, seat)
	return d[at-1] == what || d[at+1] == what
}

// blocks answers the stretches of seats between what is none.
func (d drawn) blocks() []api.Span {
	var l []api.Span
	for k, seat := range d {
		switch {
		case seat < 0:
		case d[k-1] < 0:
			l = append(l, api.Span{From: seat, Count: 1})
		default:
			l[len(l)-1].Count++
		}
	}
	return l
}

// names answers each seat's text, by counting rows and letters up, as one who paints them on would.
func names(c api.Cabin) []string {
	var l []string
	tens, ones := byte('0'), byte('0')
	for range c.Rows {
		if ones++; ones > '9' {
			tens, ones = tens+1, '0'
		}
		letter := byte('A')
		for range c.Wide {
			if letter == 'I' {
				letter++
			}
			s := string([]byte{tens, ones, letter})
			if tens == '0' {
				s = s[1:]
			}
			l = append(l, s)
			letter++
		}
	}
	return l
}

// everyAisles hands on every row of aisles that so wide a cabin may have.
func everyAisles(wide int, use func(aisles []int)) {
	for set := range 1 << (wide - 1) {
		var l []int
		for a := 1; a < wide; a++ {
			if set>>(a-1)&1 == 1 {
				l = append(l, a)
			}
		}
		use(l)
	}
}

// wantAsDrawn: places, windows, aisles and blocks as the picture shows them.
func wantAsDrawn(t *testing.T, c api.Cabin) {
	t.Helper()
	d := draw(c)
	wantBlocks(t, c, d.blocks()...)
	for seat := range c.Rows * c.Wide {
		wantWindow(t, c, seat, d.next(seat, wall), d.next(seat, gap))
		if row, column, err := cabin.Place(c, seat); row*c.Wide+column != seat || column < 0 || column >= c.Wide || err != api.OK {
			t.Errorf("Place(%v, %d): %d, %d, %d", c, seat, row, column, err)
		}
	}
}

// wantAllBesideAsDrawn: each seat and each other one.
func wantAllBesideAsDrawn(t *testing.T, c api.Cabin) {
	t.Helper()
	d := draw(c)
	for a := range c.Rows * c.Wide {
		for b := range c.Rows * c.Wide {
			wantBeside(t, c, a, b, d.next(a, b))
		}
	}
}

// P14.3, P14.4: small cabins with every row of aisles.
func TestEveryAisles(t *testing.T) {
	for wide := 1; wide <= 8; wide++ {
		everyAisles(wide, func(aisles []int) {
			for rows := 1; rows <= 3; rows++ {
				c := cabinOf(rows, wide, aisles...)
				wantAsDrawn(t, c)
				if wide <= 6 {
					wantAllBesideAsDrawn(t, c)
				}
			}
		})
	}
	everyAisles(16, func(aisles []int) {
		if len(aisles) <= 2 || len(aisles) >= 14 {
			wantAsDrawn(t, cabinOf(2, 16, aisles...))
		}
	})
}

// P14.3, P14.4: the greatest cabin, each seat beside each other one.
func TestGreatest(t *testing.T) {
	c := cabinOf(64, 16, 1, 5, 6, 15)
	wantAsDrawn(t, c)
	wantAllBesideAsDrawn(t, c)
}

// P14.2, P14.5: every seat of every cabin without aisles; an aisle changes no name.
func TestEveryName(t *testing.T) {
	for rows := 1; rows <= 64; rows++ {
		for wide := 1; wide <= 16; wide++ {
			c := cabinOf(rows, wide)
			if rows%2 == 0 && wide > 1 {
				c.Aisles = []int{1 + rows%(wide-1)}
			}
			for seat, want := range names(c) {
				wantText(t, c, seat, want)
			}
			if n, err := cabin.Seats(c); n != rows*wide || err != api.OK {
				t.Errorf("Seats(%v): %d, %d", c, n, err)
			}
		}
	}
}

// wantParsed: s is read just if it is the text of a seat, of that one.
func wantParsed(t *testing.T, c api.Cabin, all map[string]int, s string) {
	t.Helper()
	seat, there := all[s]
	n, err := cabin.Parse(c, s)
	if there && (n != seat || err != api.OK) || !there && (n != 0 || err != api.ErrSeat) {
		t.Errorf("Parse(%v, %q): %d, %d", c, s, n, err)
	}
}

// P14.2, P14.5: every text of at most two bytes, and every one of three or four of those that could mislead.
func TestEveryText(t *testing.T) {
	for _, c := range []api.Cabin{thirty(), cabinOf(64, 16, 8), cabinOf(1, 1), cabinOf(9, 8), cabinOf(10, 9, 1)} {
		all := map[string]int{}
		for seat, s := range names(c) {
			all[s] = seat
		}
		if len(all) != c.Rows*c.Wide {
			t.Fatalf("%d names of %v", len(all), c)
		}
		wantParsed(t, c, all, "")
		for a := range 256 {
			wantParsed(t, c, all, string([]byte{byte(a)}))
			for b := range 256 {
				wantParsed(t, c, all, string([]byte{byte(a), byte(b)}))
			}
		}
		everyText("0123456789ABFGHIJQRabq+-_ .x\x00\xff", 3, func(s string) { wantParsed(t, c, all, s) })
		everyText("0136AHIJQ+-_", 4, func(s string) { wantParsed(t, c, all, s) })
	}
}

// everyText hands on every text of n of these bytes.
func everyText(bytes string, n int, use func(string)) {
	text := make([]byte, n)
	var fill func(at int)
	fill = func(at int) {
		if at == n {
			use(string(text))
			return
		}
		for k := range len(bytes) {
			text[at] = bytes[k]
			fill(at + 1)
		}
	}
	fill(0)
}

// P14.5: what follows, told by the calls themselves: the blocks' seats are all seats, each once, rising;
// seats are beside one another just if they are neighbours in one block; within a block there is neither
// window nor aisle.
func TestWhatFollows(t *testing.T) {
	for wide := 1; wide <= 8; wide++ {
		everyAisles(wide, func(aisles []int) {
			c := cabinOf(3, wide, aisles...)
			blocks, _ := cabin.Blocks(c)
			next := 0
			for _, b := range blocks {
				if b.From != next || b.Count < 1 {
					t.Fatalf("Blocks(%v): %v", c, blocks)
				}
				next += b.Count
				wantOneBlock(t, c, b)
			}
			if n, _ := cabin.Seats(c); next != n {
				t.Errorf("Blocks(%v): %v", c, blocks)
			}
		})
	}
}

// wantOneBlock: b's seats are neighbours, and what lies ahead of them and behind them is none of theirs.
func wantOneBlock(t *testing.T, c api.Cabin, b api.Span) {
	t.Helper()
	seats, _ := cabin.Seats(c)
	last := b.From + b.Count - 1
	for seat := b.From; seat < last; seat++ {
		wantBeside(t, c, seat, seat+1, true)
		if seat > b.From {
			wantWindow(t, c, seat, false, false)
		}
	}
	if b.From > 0 {
		wantBeside(t, c, b.From-1, b.From, false)
	}
	if last+1 < seats {
		wantBeside(t, c, last, last+1, false)
	}
}

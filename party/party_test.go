package party_test

import (
	"math"
	"slices"
	"sync"
	"testing"

	"gangway/api"
	"gangway/bits"
	"gangway/party"
)

// small is the cabin of the chapter's examples.
func small() api.Cabin {
	return api.Cabin{Rows: 2, Wide: 6, Aisles: []int{3}}
}

func spans(l ...int) []api.Span {
	var out []api.Span
	for i := 0; i < len(l); i += 2 {
		out = append(out, api.Span{From: l[i], Count: l[i+1]})
	}
	return out
}

// without answers the set of the bound n with just these numbers.
func without(n int, l ...int) *bits.Set {
	taken := map[int]bool{}
	for _, i := range l {
		taken[i] = true
	}
	return setOf(n, taken)
}

// only answers the set of the bound n with all numbers but these.
func only(n int, l ...int) *bits.Set {
	taken := map[int]bool{}
	for i := range n {
		taken[i] = !slices.Contains(l, i)
	}
	return setOf(n, taken)
}

func wantRuns(t *testing.T, c api.Cabin, s *bits.Set, want []api.Span) {
	t.Helper()
	if l, err := party.Runs(c, s); err != api.OK || !slices.Equal(l, want) {
		t.Errorf("Runs(%v, %v): %v, %d, want %v", c, s.Bytes(), l, err, want)
	}
}

func wantSeats(t *testing.T, c api.Cabin, s *bits.Set, n int, want ...int) {
	t.Helper()
	if l, err := party.Seat(c, s, n); err != api.OK || !slices.Equal(l, want) {
		t.Errorf("Seat(%v, %v, %d): %v, %d, want %v", c, s.Bytes(), n, l, err, want)
	}
}

func wantNoSeats(t *testing.T, c api.Cabin, s *bits.Set, n int, want api.Errno) {
	t.Helper()
	if l, err := party.Seat(c, s, n); err != want || len(l) != 0 {
		t.Errorf("Seat(%v, %v, %d): %v, %d, want %d", c, s.Bytes(), n, l, err, want)
	}
}

// sizes are people that may be and others, among these some that are one if they are cut off to 8, 16 or 32 bits.
func sizes() []int {
	return []int{math.MinInt, math.MinInt32, -257, -16, -1, 0, 1, 2, 8, 15, 16, 17, 18, 32, 255, 257, 65537, 1<<32 + 1, math.MaxInt}
}

// wantRefused: both calls tell that error and nothing else, however many the people are.
func wantRefused(t *testing.T, c api.Cabin, s *bits.Set, want api.Errno) {
	t.Helper()
	if l, err := party.Runs(c, s); err != want || len(l) != 0 {
		t.Errorf("Runs(%v, bound %d): %v, %d, want %d", c, s.Bound(), l, err, want)
	}
	for _, n := range sizes() {
		wantNoSeats(t, c, s, n, want)
	}
}

// P27.1: the chapter's first example.
func TestRunsExample(t *testing.T) {
	wantRuns(t, small(), without(12), spans(0, 3, 3, 3, 6, 3, 9, 3))
	wantRuns(t, small(), without(12, 1, 3, 9, 10, 11), spans(0, 1, 2, 1, 4, 2, 6, 3))
	wantRuns(t, small(), only(12), nil)
}

// P27.2: the chapter's second and third examples, and one of DOC.md's.
func TestSeatExamples(t *testing.T) {
	s := without(12, 1, 3, 9, 10, 11)
	wantSeats(t, small(), s, 1, 0)
	wantSeats(t, small(), s, 2, 4, 5)
	wantSeats(t, small(), s, 3, 6, 7, 8)
	wantSeats(t, small(), s, 4, 0, 6, 7, 8)
	wantSeats(t, small(), s, 5, 4, 5, 6, 7, 8)
	wantSeats(t, small(), s, 6, 0, 4, 5, 6, 7, 8)
	wantSeats(t, small(), s, 7, 0, 2, 4, 5, 6, 7, 8)
	wantNoSeats(t, small(), s, 8, api.ErrFull)
	wantSeats(t, small(), without(12), 2, 0, 1)
	wantSeats(t, small(), without(12), 4, 0, 1, 2, 3)
	wantNoSeats(t, small(), without(12), 0, api.ErrParty)
	wantNoSeats(t, small(), without(12), 17, api.ErrParty)
	wantNoSeats(t, small(), without(12), 13, api.ErrFull)
	wantSeats(t, api.Cabin{Rows: 1, Wide: 6, Aisles: []int{3}}, without(6, 1), 3, 3, 4, 5)
}

// P27.1, P27.2: the chapter's fourth example.
func TestRefusedExamples(t *testing.T) {
	wantRefused(t, small(), nil, api.ErrNil)
	wantRefused(t, small(), without(11), api.ErrLong)
	wantRefused(t, api.Cabin{Wide: 6, Aisles: []int{3}}, without(0), api.ErrArg)
}

// P27.1: cabins that may not be are told ahead of what is wrong with the set and with the people.
func TestNoCabin(t *testing.T) {
	for _, c := range []api.Cabin{{}, {Rows: -1, Wide: -1}, {Rows: 65, Wide: 6}, {Rows: 2, Wide: 0}, {Rows: 2, Wide: 17}, {Rows: -2, Wide: -6}, {Rows: math.MinInt, Wide: math.MaxInt},
		{Rows: 2, Wide: 6, Aisles: []int{0}}, {Rows: 2, Wide: 6, Aisles: []int{6}}, {Rows: 2, Wide: 6, Aisles: []int{3, 3}}, {Rows: 2, Wide: 6, Aisles: []int{4, 2}},
		{Rows: 2, Wide: 6, Aisles: []int{-3}}, {Rows: 2, Wide: 1, Aisles: []int{1}}} {
		for _, s := range []*bits.Set{nil, {}, without(0), without(1), without(12), only(12), without(65 * 6), without(65536)} {
			wantRefused(t, c, s, api.ErrArg)
		}
	}
}

// P27.1, R4: what no call of bits made is no set, that of the bound 0 is one.
func TestNoSet(t *testing.T) {
	for _, c := range []api.Cabin{small(), {Rows: 1, Wide: 1}, {Rows: 64, Wide: 16}} {
		wantRefused(t, c, nil, api.ErrNil)
		wantRefused(t, c, &bits.Set{}, api.ErrNil)
		wantRefused(t, c, new(bits.Set).Copy(), api.ErrNil)
		wantRefused(t, c, without(0), api.ErrLong)
	}
	ofBytes, _ := bits.Of(12, []byte{0xFF, 0x0B})
	wantSeats(t, small(), ofBytes, 1, 10)
	wantSeats(t, small(), ofBytes.Copy(), 1, 10)
}

// P27.1: the set's bound is the number of the seats, neither more nor fewer, be it full or not.
func TestBounds(t *testing.T) {
	for _, c := range []api.Cabin{{Rows: 1, Wide: 1}, {Rows: 1, Wide: 6}, {Rows: 6, Wide: 1}, small(), {Rows: 64, Wide: 16, Aisles: []int{4, 12}}} {
		seats := c.Rows * c.Wide
		for _, n := range []int{0, 1, c.Rows, c.Wide, c.Rows + c.Wide, seats - 1, seats + 1, 2 * seats, seats + 64, 1023, 1024, 65535, 65536} {
			if n != seats {
				wantRefused(t, c, without(n), api.ErrLong)
				wantRefused(t, c, only(n), api.ErrLong)
			}
		}
		if _, err := party.Runs(c, without(seats)); err != api.OK {
			t.Errorf("Runs(%v): %d", c, err)
		}
		if _, err := party.Runs(c, only(seats)); err != api.OK {
			t.Errorf("Runs(%v) of a full one: %d", c, err)
		}
	}
}

// P27.2: 1 to 16 people, told ahead of whether there are seats.
func TestPeople(t *testing.T) {
	large := api.Cabin{Rows: 64, Wide: 16}
	full := only(1024)
	for _, n := range sizes() {
		if n < 1 || n > 16 {
			wantNoSeats(t, large, without(1024), n, api.ErrParty)
			wantNoSeats(t, large, full, n, api.ErrParty)
		} else {
			wantNoSeats(t, large, full, n, api.ErrFull)
		}
	}
	for n := 1; n <= 16; n++ {
		wantSeats(t, large, without(1024), n, spread(api.Span{From: 0, Count: 16}, n)...)
		wantSeats(t, api.Cabin{Rows: 64, Wide: 1}, without(64), n, spread(api.Span{From: 0, Count: 16}, n)...)
	}
}

// P27.2: just as many free seats as people, and one fewer, wherever these lie.
func TestJustEnough(t *testing.T) {
	large := api.Cabin{Rows: 64, Wide: 16, Aisles: []int{4, 12}}
	next := numbers(1)
	for range 200 {
		n := 1 + next(16)
		var free []int
		for len(free) < n {
			if seat := next(1024); !slices.Contains(free, seat) {
				free = append(free, seat)
			}
		}
		slices.Sort(free)
		wantSeats(t, large, only(1024, free...), n, free...)
		wantNoSeats(t, large, only(1024, free[1:]...), n, api.ErrFull)
		wantNoSeats(t, large, only(1024, free[:n-1]...), n, api.ErrFull)
	}
}

// P27.1: a run ends at an aisle and at a row's end, though the seats on both sides are free.
func TestWhereRunsEnd(t *testing.T) {
	wantRuns(t, api.Cabin{Rows: 3, Wide: 4}, without(12), spans(0, 4, 4, 4, 8, 4))
	wantRuns(t, api.Cabin{Rows: 2, Wide: 4, Aisles: []int{1, 2, 3}}, without(8), spans(0, 1, 1, 1, 2, 1, 3, 1, 4, 1, 5, 1, 6, 1, 7, 1))
	wantRuns(t, api.Cabin{Rows: 2, Wide: 4, Aisles: []int{1, 3}}, without(8, 1), spans(0, 1, 2, 1, 3, 1, 4, 1, 5, 2, 7, 1))
	wantRuns(t, api.Cabin{Rows: 2, Wide: 4, Aisles: []int{1, 3}}, without(8, 2), spans(0, 1, 1, 1, 3, 1, 4, 1, 5, 2, 7, 1))
	wantRuns(t, api.Cabin{Rows: 2, Wide: 5}, without(10, 0, 2, 4, 7), spans(1, 1, 3, 1, 5, 2, 8, 2))
	wantRuns(t, api.Cabin{Rows: 2, Wide: 5}, without(10, 0, 1, 2, 3, 4), spans(5, 5))
	wantRuns(t, api.Cabin{Rows: 2, Wide: 5}, without(10, 5, 6, 7, 8, 9), spans(0, 5))
	wantRuns(t, api.Cabin{Rows: 3, Wide: 1}, without(3), spans(0, 1, 1, 1, 2, 1))
	wantRuns(t, api.Cabin{Rows: 1, Wide: 1}, without(1), spans(0, 1))
	wantRuns(t, api.Cabin{Rows: 1, Wide: 1}, only(1), nil)
}

// P27.1: at the limits, all free, one taken, one free, none.
func TestLargestCabin(t *testing.T) {
	c := api.Cabin{Rows: 64, Wide: 16, Aisles: []int{4, 12}}
	singles := api.Cabin{Rows: 64, Wide: 16, Aisles: []int{1, 2, 3, 4, 5, 6, 7, 8, 9, 10, 11, 12, 13, 14, 15}}
	for _, x := range []api.Cabin{c, singles} {
		wantRuns(t, x, without(1024), runsOf(x, nil))
		wantRuns(t, x, only(1024), nil)
		for _, seat := range []int{0, 3, 4, 11, 12, 15, 16, 63, 64, 500, 1007, 1008, 1023} {
			wantRuns(t, x, without(1024, seat), runsOf(x, map[int]bool{seat: true}))
			wantRuns(t, x, only(1024, seat), spans(seat, 1))
			wantSeats(t, x, only(1024, seat), 1, seat)
			wantNoSeats(t, x, only(1024, seat), 2, api.ErrFull)
		}
	}
	wantSeats(t, singles, without(1024, 2), 16, 0, 1, 3, 4, 5, 6, 7, 8, 9, 10, 11, 12, 13, 14, 15, 16)
	wantSeats(t, c, without(1024), 16, 4, 5, 6, 7, 8, 9, 10, 11, 20, 21, 22, 23, 24, 25, 26, 27)
}

// P27.2: the run with the fewest seats in which those who are left fit, not the first one that does, nor a longer one
// that would leave more together; of several the first, and of it the first seats.
func TestShortestThatFits(t *testing.T) {
	c := api.Cabin{Rows: 4, Wide: 6}
	wantSeats(t, c, without(24, 5, 10, 11, 15, 16, 17, 22, 23), 3, 12, 13, 14)
	wantSeats(t, c, without(24, 5, 10, 11, 15, 16, 17, 22, 23), 2, 12, 13)
	wantSeats(t, c, without(24, 5, 10, 11, 15, 16, 17, 22, 23), 4, 6, 7, 8, 9)
	wantSeats(t, c, without(24, 5, 10, 11, 15, 16, 17, 22, 23), 5, 0, 1, 2, 3, 4)
	wantSeats(t, c, without(24, 3, 9, 15, 21), 2, 4, 5)
	wantSeats(t, c, without(24, 2, 9, 15, 21), 2, 0, 1)
	wantSeats(t, c, without(24, 2, 9, 15, 21), 3, 3, 4, 5)
}

// P27.2: if there is no such run, the longest one goes whole, of several the first; those who are left are looked at
// anew: they may fit in one, or again in none.
func TestLongestGoWhole(t *testing.T) {
	c := api.Cabin{Rows: 4, Wide: 6, Aisles: []int{4}}
	wantSeats(t, c, without(24), 6, 0, 1, 2, 3, 4, 5)
	wantSeats(t, c, without(24), 5, 0, 1, 2, 3, 4)
	wantSeats(t, c, without(24), 7, 0, 1, 2, 3, 6, 7, 8)
	wantSeats(t, c, without(24), 10, 0, 1, 2, 3, 4, 5, 6, 7, 8, 9)
	wantSeats(t, c, without(24), 14, 0, 1, 2, 3, 4, 5, 6, 7, 8, 9, 12, 13, 14, 15)
	wantSeats(t, c, without(24, 0), 5, 4, 6, 7, 8, 9)
	wantSeats(t, c, without(24, 0), 7, 1, 2, 3, 6, 7, 8, 9)
	wantSeats(t, c, without(24, 0, 4, 10, 16, 22), 5, 5, 6, 7, 8, 9)
	// What is left when the longest have gone goes to a run that stands ahead of them.
	wantSeats(t, c, without(24, 0, 1, 2, 8), 6, 4, 5, 12, 13, 14, 15)
	wantSeats(t, c, without(24, 0, 1, 2, 8), 9, 3, 12, 13, 14, 15, 18, 19, 20, 21)
}

// P27.1 to P27.3: all cabins of few seats, all sets of what is taken, all parties.
func TestAllSmallCabins(t *testing.T) {
	for rows := 1; rows <= 4; rows++ {
		for wide := 1; wide <= 9 && rows*wide <= 9; wide++ {
			for aisles := range 1 << (wide - 1) {
				c := api.Cabin{Rows: rows, Wide: wide, Aisles: aislesOf(aisles, wide)}
				for word := range 1 << (rows * wide) {
					look(t, c, takenOf(word, rows*wide), -1, rows*wide+1)
				}
			}
		}
	}
}

// look holds what is told of the cabin against the model and against what follows, for parties of the sizes from the
// one to the other.
func look(t *testing.T, c api.Cabin, taken map[int]bool, from, to int) {
	t.Helper()
	s := setOf(c.Rows*c.Wide, taken)
	was := s.Copy()
	runs := runsOf(c, taken)
	wantRuns(t, c, s, runs)
	for n := from; n <= to; n++ {
		want := seatsOf(runs, n)
		if want.err != api.OK {
			wantNoSeats(t, c, s, n, want.err)
			continue
		}
		wantSeats(t, c, s, n, want.seats...)
		lookAtSeats(t, c, s, runs, n)
	}
	if !bits.Same(s, was) {
		t.Errorf("%v: the set is %v, was %v", c, s.Bytes(), was.Bytes())
	}
}

// P27.3.
func lookAtSeats(t *testing.T, c api.Cabin, s *bits.Set, runs []api.Span, n int) {
	t.Helper()
	seats, _ := party.Seat(c, s, n)
	for i, seat := range seats {
		if s.Has(seat) || seat < 0 || seat >= s.Bound() || i > 0 && seats[i-1] >= seat {
			t.Errorf("Seat(%v, %v, %d): %v, of which %d is not free, or not the next", c, s.Bytes(), n, seats, seat)
		}
	}
	if len(seats) != n {
		t.Errorf("Seat(%v, %v, %d): %v", c, s.Bytes(), n, seats)
	}
	fits := slices.ContainsFunc(runs, func(r api.Span) bool { return r.Count >= n })
	if isOne := used(runs, seats) == 1 && seats[n-1]-seats[0] == n-1; isOne != fits {
		t.Errorf("Seat(%v, %v, %d): %v, in one run: %v, want %v", c, s.Bytes(), n, seats, isOne, fits)
	}
	if len(runs) <= 9 {
		if got, least := used(runs, seats), fewest(runs, n); got != least {
			t.Errorf("Seat(%v, %v, %d): %v in %d runs, want %d", c, s.Bytes(), n, seats, got, least)
		}
	}
}

// P27.1 to P27.3: cabins of any size.
func TestSomeCabins(t *testing.T) {
	next := numbers(2)
	inOne, inMore, inMany, full := 0, 0, 0, 0
	for range 1500 {
		c, taken := someCabin(next)
		look(t, c, taken, 0, 17)
		runs := runsOf(c, taken)
		for n := 1; n <= 16; n++ {
			x := seatsOf(runs, n)
			switch parts := used(runs, x.seats); {
			case x.err == api.ErrFull:
				full++
			case parts == 1:
				inOne++
			case parts <= 3:
				inMore++
			default:
				inMany++
			}
		}
	}
	if min(inOne, inMore, inMany, full) < 500 {
		t.Errorf("too few parties of a kind: %d, %d, %d, %d", inOne, inMore, inMany, full)
	}
}

// P27.2: a flight fills up party by party, each one being put into the set; none gets a seat that another has.
func TestFillingUp(t *testing.T) {
	next := numbers(3)
	for range 20 {
		c, taken := someCabin(next)
		s := setOf(c.Rows*c.Wide, taken)
		for s.Free(0) >= 0 {
			n := 1 + next(min(16, s.Bound()-s.Count()))
			want := seatsOf(runsOf(c, taken), n)
			wantSeats(t, c, s, n, want.seats...)
			for _, seat := range want.seats {
				taken[seat] = true
				s.Put(seat)
			}
		}
		wantNoSeats(t, c, s, 1, api.ErrFull)
		wantRuns(t, c, s, nil)
	}
}

// R3: the aisles that are handed in are not changed, nor the room behind their end.
func TestArguments(t *testing.T) {
	room := []int{2, 5, 7, 11, 13}
	c := api.Cabin{Rows: 3, Wide: 8, Aisles: room[:2]}
	s := without(24, 0, 9, 10, 23)
	was := s.Copy()
	if _, err := party.Runs(c, s); err != api.OK {
		t.Errorf("Runs: %d", err)
	}
	for n := 0; n <= 17; n++ {
		party.Seat(c, s, n)
	}
	if !slices.Equal(room, []int{2, 5, 7, 11, 13}) || !bits.Same(s, was) {
		t.Errorf("aisles %v, set %v, was %v", room, s.Bytes(), was.Bytes())
	}
}

// R3, R6: an answer is new memory: what is written there, or put into the set later on, shows in no other answer.
func TestAnswers(t *testing.T) {
	c, s := small(), without(12, 1, 3, 9, 10, 11)
	runs, _ := party.Runs(c, s)
	seats, _ := party.Seat(c, s, 5)
	for i := range runs {
		runs[i] = api.Span{From: -1, Count: -1}
	}
	for i := range seats {
		seats[i] = -1
	}
	_ = append(runs[:0:cap(runs)], spans(7, 7, 7, 7, 7, 7, 7, 7)...)
	again, _ := party.Runs(c, s)
	seatsAgain, _ := party.Seat(c, s, 5)
	for i := range 12 {
		s.Put(i)
	}
	if want := spans(0, 1, 2, 1, 4, 2, 6, 3); !slices.Equal(again, want) {
		t.Errorf("Runs: %v", again)
	}
	if want := []int{4, 5, 6, 7, 8}; !slices.Equal(seatsAgain, want) {
		t.Errorf("Seat: %v", seatsAgain)
	}
	wantRuns(t, c, s, nil)
	s.Drop(5)
	wantSeats(t, c, s, 1, 5)
}

// R6, R7: calls with sets of their own may be made at one time, over one cabin.
func TestAtOneTime(t *testing.T) {
	c := api.Cabin{Rows: 20, Wide: 6, Aisles: []int{3}}
	var all sync.WaitGroup
	for seed := range 8 {
		all.Go(func() {
			next := numbers(uint64(seed))
			for range 40 {
				taken := map[int]bool{}
				for range next(121) {
					taken[next(120)] = true
				}
				look(t, c, taken, 1, 16)
			}
		})
	}
	all.Wait()
}

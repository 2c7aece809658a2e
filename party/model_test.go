package party_test

import (
	"slices"

	"gangway/api"
	"gangway/bits"
)

// The document's words by another way than the package goes: what it is held against.

// joined tells whether the seat and the one behind it lie in one block.
func joined(c api.Cabin, seat int) bool {
	behind := (seat + 1) % c.Wide
	return behind != 0 && !slices.Contains(c.Aisles, behind)
}

// runsOf goes from seat to seat: each free one goes with the run ahead, or begins one.
func runsOf(c api.Cabin, taken map[int]bool) []api.Span {
	var runs []api.Span
	for seat := range c.Rows * c.Wide {
		switch {
		case taken[seat]:
		case seat > 0 && !taken[seat-1] && joined(c, seat-1):
			runs[len(runs)-1].Count++
		default:
			runs = append(runs, api.Span{From: seat, Count: 1})
		}
	}
	return runs
}

func freeOf(runs []api.Span) int {
	free := 0
	for _, r := range runs {
		free += r.Count
	}
	return free
}

// seated is what Seat tells.
type seated struct {
	seats []int
	err   api.Errno
}

// seatsOf sorts the runs instead of seeking among them: the ones that are longest go, of those as long the first,
// till what is left fits in one; that it takes of the shortest in which it fits.
func seatsOf(runs []api.Span, n int) seated {
	if n < 1 || n > 16 {
		return seated{err: api.ErrParty}
	}
	if freeOf(runs) < n {
		return seated{err: api.ErrFull}
	}
	rest := slices.Clone(runs)
	slices.SortStableFunc(rest, func(a, b api.Span) int { return b.Count - a.Count })
	var seats []int
	for n > rest[0].Count {
		seats = append(seats, spread(rest[0], rest[0].Count)...)
		n -= rest[0].Count
		rest = rest[1:]
	}
	for size := n; ; size++ {
		i := slices.IndexFunc(rest, func(r api.Span) bool { return r.Count == size })
		if i >= 0 {
			seats = append(seats, spread(rest[i], n)...)
			slices.Sort(seats)
			return seated{seats: seats}
		}
	}
}

func spread(r api.Span, n int) []int {
	var seats []int
	for i := range n {
		seats = append(seats, r.From+i)
	}
	return seats
}

// used tells how many of the runs the seats lie in.
func used(runs []api.Span, seats []int) int {
	count := 0
	for _, r := range runs {
		if slices.ContainsFunc(seats, func(seat int) bool { return seat >= r.From && seat < r.From+r.Count }) {
			count++
		}
	}
	return count
}

// fewest tells in how many of the runs n people have to sit at least, whichever these are; runs are few.
func fewest(runs []api.Span, n int) int {
	least := len(runs) + 1
	for which := range 1 << len(runs) {
		count, free := 0, 0
		for i, r := range runs {
			if which>>i&1 == 1 {
				count++
				free += r.Count
			}
		}
		if free >= n {
			least = min(least, count)
		}
	}
	return least
}

// setOf answers a set of the bound n with these numbers.
func setOf(n int, taken map[int]bool) *bits.Set {
	s, _ := bits.New(n)
	for i, is := range taken {
		if is {
			s.Put(i)
		}
	}
	return s
}

// takenOf tells the seats whose bits are set.
func takenOf(word, seats int) map[int]bool {
	taken := map[int]bool{}
	for i := range seats {
		if word>>i&1 == 1 {
			taken[i] = true
		}
	}
	return taken
}

// aislesOf tells the aisles whose bits are set, that behind the first seat of a row first.
func aislesOf(word, wide int) []int {
	var aisles []int
	for a := 1; a < wide; a++ {
		if word>>(a-1)&1 == 1 {
			aisles = append(aisles, a)
		}
	}
	return aisles
}

// numbers tells as many numbers below what one asks for, the same ones every time.
func numbers(seed uint64) func(below int) int {
	return func(below int) int {
		seed += 0x9E3779B97F4A7C15
		x := seed
		x = (x ^ x>>30) * 0xBF58476D1CE4E5B9
		x = (x ^ x>>27) * 0x94D049BB133111EB
		return int((x ^ x>>31) % uint64(below))
	}
}

// someCabin answers a cabin, and those of its seats that are taken: none, few, many or all.
func someCabin(next func(int) int) (api.Cabin, map[int]bool) {
	wide := 1 + next(16)
	c := api.Cabin{Rows: 1 + next(64), Wide: wide, Aisles: aislesOf(next(1<<16)&next(1<<16)&next(1<<16), wide)}
	if next(4) == 0 {
		c.Rows = 1 + next(3)
	}
	taken := map[int]bool{}
	full := next(21)
	for i := range c.Rows * c.Wide {
		if next(20) < full {
			taken[i] = true
		}
	}
	return c, taken
}

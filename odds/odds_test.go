package odds_test

import (
	"math"
	"math/big"
	"slices"
	"sync"
	"testing"

	"gangway/api"
	"gangway/odds"
)

// same tells whether two floats are one to the last bit: +0 and -0 are not.
func same(a, b float64) bool {
	return math.Float64bits(a) == math.Float64bits(b)
}

func wantShows(t *testing.T, n int, p float64, want []float64) {
	t.Helper()
	l, err := odds.Shows(n, p)
	if err != api.OK || !slices.EqualFunc(l, want, same) {
		t.Errorf("Shows(%d, %v): %v, %d, want %v", n, p, l, err, want)
	}
}

func wantAbove(t *testing.T, n, seats int, p, want float64) {
	t.Helper()
	if x, err := odds.Above(n, seats, p); err != api.OK || !same(x, want) {
		t.Errorf("Above(%d, %d, %v): %v, %d, want %v", n, seats, p, x, err, want)
	}
}

func wantLimit(t *testing.T, seats int, p, risk float64, want int) {
	t.Helper()
	if n, err := odds.Limit(seats, p, risk); err != api.OK || n != want {
		t.Errorf("Limit(%d, %v, %v): %d, %d, want %d", seats, p, risk, n, err, want)
	}
}

func wantNearest(t *testing.T, x float64, want whole) {
	t.Helper()
	if n, err := odds.Nearest(x); (whole{n, err}) != want {
		t.Errorf("Nearest(%v): %d, %d, want %v", x, n, err, want)
	}
}

// wantRefused: both Shows and Above, whose errors are the same, tell that error and nothing else.
func wantRefused(t *testing.T, n int, p float64, want api.Errno) {
	t.Helper()
	if l, err := odds.Shows(n, p); err != want || len(l) != 0 {
		t.Errorf("Shows(%d, %v): %d floats, %d, want %d", n, p, len(l), err, want)
	}
	for _, seats := range []int{math.MinInt, -1, 0, 1, n, 1025, math.MaxInt} {
		if x, err := odds.Above(n, seats, p); err != want || !same(x, 0) {
			t.Errorf("Above(%d, %d, %v): %v, %d, want %d", n, seats, p, x, err, want)
		}
	}
}

func wantLimitRefused(t *testing.T, seats int, p, risk float64, want api.Errno) {
	t.Helper()
	if n, err := odds.Limit(seats, p, risk); err != want || n != 0 {
		t.Errorf("Limit(%d, %v, %v): %d, %d, want %d", seats, p, risk, n, err, want)
	}
}

// P25.1: the chapter's first example.
func TestShowsExamples(t *testing.T) {
	wantShows(t, 0, 0.3, []float64{1})
	wantShows(t, 2, 0.5, []float64{0.25, 0.5, 0.25})
	wantShows(t, 3, 1, []float64{0, 0, 0, 1})
	wantShows(t, 1, 0.25, []float64{0.75, 0.25})
	wantRefused(t, -1, 2, api.ErrArg)
	wantRefused(t, 4097, 0, api.ErrArg)
	wantRefused(t, 3, math.NaN(), api.ErrReal)
	wantRefused(t, 3, 1.5, api.ErrReal)
}

// P25.1, P25.2: as many people as may be, and no others, whatever the likelihood is.
func TestNumbersOfPeople(t *testing.T) {
	for _, n := range []int{math.MinInt, -4096, -2, -1, 4097, 4098, 65536, 1 << 32, math.MaxInt} {
		for _, p := range append(edges(), unlikely()...) {
			wantRefused(t, n, p, api.ErrArg)
		}
	}
	for _, n := range []int{0, 1, 4095, 4096} {
		l, err := odds.Shows(n, 0.5)
		x, errAbove := odds.Above(n, -1, 0)
		if err != api.OK || len(l) != n+1 || errAbove != api.OK || x != 1 {
			t.Errorf("%d people: %d floats, %d; above -1: %v, %d", n, len(l), err, x, errAbove)
		}
	}
}

// P25.1, P25.2: what is no likelihood is refused, also where it plays no part.
func TestLikelihoods(t *testing.T) {
	for _, n := range []int{0, 1, 2, 4096} {
		for _, p := range unlikely() {
			wantRefused(t, n, p, api.ErrReal)
		}
		for _, p := range edges() {
			if l, err := odds.Shows(n, p); err != api.OK || len(l) != n+1 {
				t.Errorf("Shows(%d, %v): %d floats, %d", n, p, len(l), err)
			}
			if _, err := odds.Above(n, n/2, p); err != api.OK {
				t.Errorf("Above(%d, %d, %v): %d", n, n/2, p, err)
			}
		}
	}
}

// P25.1: each float of the rows of few people, each product and each sum of which is rounded by itself.
func TestShows(t *testing.T) {
	for _, p := range likelihoods(1, 60) {
		row := []float64{1}
		for n := range 32 {
			wantShows(t, n, p, row)
			row = nextRow(row, p)
		}
	}
	next := numbers(2)
	for _, p := range likelihoods(3, 20) {
		n := 32 + int(next()%70)
		wantShows(t, n, p, rowOf(n, p))
	}
}

// P25.1: each float of a row of many people is made of the row ahead.
func TestShowsOfMany(t *testing.T) {
	for _, p := range []float64{0.5, 0.1, 0.97, 1e-3, 1 - 1e-3, 1.0 / 3} {
		for _, n := range []int{257, 1025, 2500, 4096} {
			ahead, _ := odds.Shows(n-1, p)
			l, err := odds.Shows(n, p)
			if err != api.OK || len(l) != n+1 {
				t.Fatalf("Shows(%d, %v): %d floats, %d", n, p, len(l), err)
			}
			for k := range l {
				if want := nextFloat(ahead, k, p); !same(l[k], want) {
					t.Fatalf("Shows(%d, %v) at %d: %v, want %v", n, p, k, l[k], want)
				}
			}
		}
	}
}

// P25.1: rows in which it would show that a product, or the likelihood of not coming, is not rounded.
func TestShowsWhereRoundingShows(t *testing.T) {
	ofProduct, ofRest := 0, 0
	for _, p := range likelihoods(4, 200) {
		row := rowOf(9, p)
		rest := blank().Sub(exact(1), exact(p))
		for k := 1; k < 9; k++ {
			want := nextFloat(row, k, p)
			if !same(want, math.FMA(row[k], rounded(rest), times(row[k-1], p))) {
				ofProduct++
			}
			if !same(want, plus(rounded(blank().Mul(exact(row[k]), rest)), times(row[k-1], p))) {
				ofRest++
			}
		}
		wantShows(t, 10, p, nextRow(row, p))
	}
	if ofProduct < 100 || ofRest < 10 {
		t.Errorf("too few floats in which it shows: %d, %d", ofProduct, ofRest)
	}
}

// P25.2: the chapter's second example.
func TestAboveExamples(t *testing.T) {
	wantAbove(t, 2, 1, 0.5, 0.25)
	wantAbove(t, 2, 0, 0.5, 0.75)
	wantAbove(t, 2, -5, 0.5, 1)
	wantAbove(t, 2, 2, 0.5, 0)
	wantAbove(t, 2, 9, 0.5, 0)
}

// P25.2: any number of seats, also below 0 and beyond the people; the last float is added first.
func TestAbove(t *testing.T) {
	forward := 0
	for _, p := range likelihoods(5, 60) {
		for _, n := range []int{0, 1, 2, 3, 7, 20, 33} {
			row := rowOf(n, p)
			for seats := -2; seats <= n+2; seats++ {
				want := aboveOf(row, seats)
				wantAbove(t, n, seats, p, want)
				other := slices.Clone(row[min(max(seats+1, 0), n+1):])
				slices.Reverse(other)
				if !same(aboveOf(other, -1), want) {
					forward++
				}
			}
			wantAbove(t, n, math.MinInt, p, aboveOf(row, -1))
			wantAbove(t, n, math.MaxInt, p, 0)
		}
	}
	if forward < 100 {
		t.Errorf("only %d sums of which the order shows", forward)
	}
}

// P25.2: sums of many people's rows, also more seats than a flight has.
func TestAboveOfMany(t *testing.T) {
	for _, p := range []float64{0, 0.1, 0.5, 0.93, 1} {
		row, _ := odds.Shows(4096, p)
		for _, seats := range []int{-1, 0, 409, 1024, 1025, 2048, 3800, 4094, 4095, 4096, 4097} {
			wantAbove(t, 4096, seats, p, aboveOf(row, seats))
		}
	}
}

// P25.3: the chapter's third example.
func TestLimitExamples(t *testing.T) {
	wantLimit(t, 2, 0.5, 0.2, 3)
	wantLimit(t, 0, 0.5, 0, 0)
	wantLimit(t, 1, 0, 0, 20)
	wantLimit(t, 1024, 0, 0, 4096)
	wantLimitRefused(t, 1025, 0, 0, api.ErrArg)
}

// P25.3: each thing that may be wrong, the first one ahead of the others; each likelihood that may be is taken.
func TestLimitRefused(t *testing.T) {
	for _, seats := range []int{math.MinInt, -1025, -4, -1, 1025, 4096, 1 << 62, math.MaxInt} {
		wantLimitRefused(t, seats, 0.5, 0.5, api.ErrArg)
		for _, x := range unlikely() {
			wantLimitRefused(t, seats, x, 0.5, api.ErrArg)
			wantLimitRefused(t, seats, 0.5, x, api.ErrArg)
		}
	}
	for _, seats := range []int{0, 1, 1024} {
		for _, x := range unlikely() {
			wantLimitRefused(t, seats, x, 0.5, api.ErrReal)
			wantLimitRefused(t, seats, 0.5, x, api.ErrReal)
			wantLimitRefused(t, seats, 0, x, api.ErrReal)
			wantLimitRefused(t, seats, x, x, api.ErrReal)
		}
	}
}

// P25.3: any likelihoods, also risks that are just what Above tells, and those next to them.
func TestLimit(t *testing.T) {
	next := numbers(6)
	for _, p := range likelihoods(7, 50) {
		for seats := range 4 {
			risks := []float64{0, math.Copysign(0, -1), 0.01, 0.5, 1, float64(next()>>11) / (1 << 53)}
			n := seats + int(next()%12)
			if x, _ := odds.Above(n, seats, p); x > 0 && x <= 1 {
				risks = append(risks, x, math.Nextafter(x, 0))
			}
			for _, risk := range risks {
				wantLimit(t, seats, p, risk, limitOf(seats, p, risk))
			}
		}
	}
	for seats := 4; seats < 14; seats++ {
		wantLimit(t, seats, 0.9, 0.05, limitOf(seats, 0.9, 0.05))
	}
}

// P25.3: sums are rounded, so one may be above a risk and one of more people not: what is told lies ahead of both.
func TestLimitBelowWhatCouldBe(t *testing.T) {
	for _, x := range []struct {
		seats int
		p     float64
		want  int
		later int
	}{{0, 0.97, 12, 14}, {1, 0.93, 18, 20}, {2, 0.89, 20, 22}, {3, 0.96, 22, 24}} {
		over, _ := odds.Above(x.want+1, x.seats, x.p)
		under, _ := odds.Above(x.later, x.seats, x.p)
		if over <= 1 || under > 1 {
			t.Errorf("Above(%d, %d, %v): %v; of %d: %v", x.want+1, x.seats, x.p, over, x.later, under)
		}
		wantLimit(t, x.seats, x.p, 1, x.want)
		wantLimit(t, x.seats, x.p, 1, limitOf(x.seats, x.p, 1))
	}
}

// P25.3: the last number of people that is looked at: four times the seats and 16 more, at most 4096.
func TestLimitAtTheEnd(t *testing.T) {
	for seats := range 1025 {
		if seats > 20 && seats < 1015 && seats%97 != 0 {
			continue
		}
		last := min(4*seats+16, 4096)
		wantLimit(t, seats, 0, 0, last)
		wantLimit(t, seats, 1, 0, seats)
		wantLimit(t, seats, 1, math.Nextafter(1, 0), seats)
		wantLimit(t, seats, 1, 1, last)
	}
}

// P25.3: of many seats, held against what Above tells.
func TestLimitOfMany(t *testing.T) {
	for _, x := range []struct {
		seats   int
		p, risk float64
	}{{180, 0.95, 0.01}, {180, 0.5, 1e-6}, {1024, 0.9, 0.05}, {1024, 0.99, 1e-4}, {1023, 0.26, 0.5}, {333, 0.3, 0.001}} {
		n, err := odds.Limit(x.seats, x.p, x.risk)
		if err != api.OK || n <= x.seats || n >= min(4*x.seats+16, 4096) {
			t.Errorf("Limit%v: %d, %d", x, n, err)
			continue
		}
		if a, _ := odds.Above(n+1, x.seats, x.p); a <= x.risk {
			t.Errorf("Limit%v: %d, but of one more: %v", x, n, a)
		}
		for m := max(x.seats, n-20); m <= n; m++ {
			if a, _ := odds.Above(m, x.seats, x.p); a > x.risk {
				t.Errorf("Limit%v: %d, but of %d: %v", x, n, m, a)
			}
		}
	}
}

// P25.4: the chapter's fourth example.
func TestNearestExamples(t *testing.T) {
	wantNearest(t, 0.5, whole{})
	wantNearest(t, 1.5, whole{n: 2})
	wantNearest(t, -2.5, whole{n: -2})
	wantNearest(t, -0x1p63, whole{n: math.MinInt64})
	wantNearest(t, 0x1p63, whole{err: api.ErrReal})
	wantNearest(t, math.Inf(1), whole{err: api.ErrReal})
	wantNearest(t, math.Inf(-1), whole{err: api.ErrReal})
	wantNearest(t, math.NaN(), whole{err: api.ErrReal})
}

// P25.4: halves and what is next to them, and the greatest floats that may be told.
func TestNearestAtTheEdges(t *testing.T) {
	for k := -100; k <= 100; k++ {
		x := float64(k) / 2
		for _, y := range []float64{x, math.Nextafter(x, math.Inf(1)), math.Nextafter(x, math.Inf(-1))} {
			wantNearest(t, y, nearestOf(y))
		}
	}
	for bit := range 66 {
		for _, x := range []float64{math.Ldexp(1, bit), math.Ldexp(1, bit) - 0.5, math.Ldexp(1, bit) + 0.5, math.Ldexp(1, bit) + 1.5} {
			for _, y := range []float64{x, math.Nextafter(x, 0), math.Nextafter(x, math.Inf(1))} {
				wantNearest(t, y, nearestOf(y))
				wantNearest(t, -y, nearestOf(-y))
			}
		}
	}
	wantNearest(t, math.Nextafter(0x1p63, 0), whole{n: 1<<63 - 1024})
	wantNearest(t, math.Nextafter(-0x1p63, 0), whole{n: -1<<63 + 1024})
	wantNearest(t, math.Nextafter(-0x1p63, math.Inf(-1)), whole{err: api.ErrReal})
	wantNearest(t, 4503599627370495.5, whole{n: 4503599627370496})
	wantNearest(t, 4503599627370494.5, whole{n: 4503599627370494})
	wantNearest(t, 0.49999999999999994, whole{})
	wantNearest(t, math.Copysign(0, -1), whole{})
	wantNearest(t, math.SmallestNonzeroFloat64, whole{})
	for _, x := range []float64{math.MaxFloat64, 0x1p64, 1e300} {
		wantNearest(t, x, whole{err: api.ErrReal})
		wantNearest(t, -x, whole{err: api.ErrReal})
	}
}

// P25.4: floats of any bits, and floats of which most have a whole number near.
func TestNearest(t *testing.T) {
	next := numbers(8)
	for range 20000 {
		any := math.Float64frombits(next())
		wantNearest(t, any, nearestOf(any))
		near := math.Ldexp(float64(int64(next())), -int(next()%70))
		wantNearest(t, near, nearestOf(near))
		half := float64(int64(next())>>(next()%64)) + 0.5
		wantNearest(t, half, nearestOf(half))
	}
}

// P25.5: no float of a row is below 0, and none is -0.
func TestNoneBelowNought(t *testing.T) {
	for _, p := range likelihoods(9, 40) {
		for _, n := range []int{0, 1, 2, 30, 800} {
			l, _ := odds.Shows(n, p)
			for k, x := range l {
				if math.Signbit(x) || math.IsNaN(x) {
					t.Fatalf("Shows(%d, %v) at %d: %v", n, p, k, x)
				}
			}
		}
	}
}

// P25.5: where nobody comes, and where all come, which is sure.
func TestWhatIsSure(t *testing.T) {
	for _, n := range []int{0, 1, 2, 3, 50, 1024, 4096} {
		none, all := make([]float64, n+1), make([]float64, n+1)
		none[0], all[n] = 1, 1
		wantShows(t, n, 0, none)
		wantShows(t, n, math.Copysign(0, -1), none)
		wantShows(t, n, 1, all)
	}
}

// P25.5: with 1/2 the ways to pick k of n, over 2^n, exactly, up to 50 people.
func TestHalfIsExact(t *testing.T) {
	for n := range int64(51) {
		l, err := odds.Shows(int(n), 0.5)
		if err != api.OK || len(l) != int(n)+1 {
			t.Fatalf("Shows(%d, 0.5): %v, %d", n, l, err)
		}
		for k := range n + 1 {
			ways := new(big.Int).Binomial(n, k).Int64()
			if want := math.Ldexp(float64(ways), -int(n)); l[k] != want {
				t.Errorf("Shows(%d, 0.5) at %d: %v, want %v", n, k, l[k], want)
			}
		}
	}
}

// R3: what is told is new memory, and what is written there shows nowhere.
func TestRowsAreNew(t *testing.T) {
	a, _ := odds.Shows(20, 0.3)
	b, _ := odds.Shows(20, 0.3)
	for k := range a[:cap(a)] {
		a[:cap(a)][k] = 7
	}
	if want := rowOf(20, 0.3); !slices.EqualFunc(b, want, same) {
		t.Errorf("Shows(20, 0.3): %v, want %v", b, want)
	}
	wantShows(t, 20, 0.3, rowOf(20, 0.3))
	wantAbove(t, 20, 5, 0.3, aboveOf(rowOf(20, 0.3), 5))
}

// R6, R7: calls at one time, and calls behind others that were refused, answer the same.
func TestAtOneTime(t *testing.T) {
	var all sync.WaitGroup
	for range 8 {
		all.Go(func() {
			for _, p := range likelihoods(10, 5) {
				row := rowOf(12, p)
				odds.Shows(12, math.NaN())
				wantShows(t, 12, p, row)
				odds.Limit(2, p, 2)
				wantAbove(t, 12, 3, p, aboveOf(row, 3))
				wantLimit(t, 2, p, 0.4, limitOf(2, p, 0.4))
			}
		})
	}
	all.Wait()
}

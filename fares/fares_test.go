package fares_test

import (
	"math"
	"math/big"
	"slices"
	"sync"
	"testing"

	"gangway/api"
	"gangway/fares"
)

var (
	dear  = api.Fare{Price: 100, Chance: []float64{0, 0.5, 0.5}}
	cheap = api.Fare{Price: 40, Chance: []float64{0, 0, 1}}
)

// same tells whether two floats are one to the last bit: +0 and -0 are not.
func same(a, b float64) bool {
	return math.Float64bits(a) == math.Float64bits(b)
}

func with(price float64, chances ...float64) []api.Fare {
	return []api.Fare{{Price: price, Chance: chances}}
}

func wantCheck(t *testing.T, l []api.Fare, want api.Errno) {
	t.Helper()
	if err := fares.Check(l); err != want {
		t.Errorf("Check(%v): %d, want %d", l, err, want)
	}
}

// wantRefused: Values, Limits and Bid tell that error and nothing else.
func wantRefused(t *testing.T, l []api.Fare, seats int, want api.Errno) {
	t.Helper()
	if v, err := fares.Values(l, seats); err != want || len(v) != 0 {
		t.Errorf("Values(%v, %d): %d floats, %d, want %d", l, seats, len(v), err, want)
	}
	if n, err := fares.Limits(l, seats); err != want || len(n) != 0 {
		t.Errorf("Limits(%v, %d): %d limits, %d, want %d", l, seats, len(n), err, want)
	}
	if x, err := fares.Bid(l, seats); err != want || !same(x, 0) {
		t.Errorf("Bid(%v, %d): %v, %d, want %d", l, seats, x, err, want)
	}
}

// wantNoFares: l may not be, whatever the seats are.
func wantNoFares(t *testing.T, l []api.Fare) {
	t.Helper()
	wantCheck(t, l, api.ErrFares)
	for _, seats := range []int{0, 3, -1, 1025} {
		wantRefused(t, l, seats, api.ErrFares)
	}
}

// wantFares: l may be, and all calls take it.
func wantFares(t *testing.T, l []api.Fare) {
	t.Helper()
	wantCheck(t, l, api.OK)
	v, errValues := fares.Values(l, 2)
	n, errLimits := fares.Limits(l, 2)
	_, errBid := fares.Bid(l, 2)
	if errValues != api.OK || len(v) != 3 || errLimits != api.OK || len(n) != len(l) || errBid != api.OK {
		t.Errorf("%v: %v, %d, %v, %d, %d", l, v, errValues, n, errLimits, errBid)
	}
}

func wantValues(t *testing.T, l []api.Fare, seats int, want ...float64) {
	t.Helper()
	if v, err := fares.Values(l, seats); err != api.OK || !slices.EqualFunc(v, want, same) {
		t.Errorf("Values(%v, %d): %v, %d, want %v", l, seats, v, err, want)
	}
}

func wantLimits(t *testing.T, l []api.Fare, seats int, want ...int) {
	t.Helper()
	if n, err := fares.Limits(l, seats); err != api.OK || !slices.Equal(n, want) {
		t.Errorf("Limits(%v, %d): %v, %d, want %v", l, seats, n, err, want)
	}
}

func wantBid(t *testing.T, l []api.Fare, seats int, want float64) {
	t.Helper()
	if x, err := fares.Bid(l, seats); err != api.OK || !same(x, want) {
		t.Errorf("Bid(%v, %d): %v, %d, want %v", l, seats, x, err, want)
	}
}

func wantUnits(t *testing.T, x float64, want whole) {
	t.Helper()
	if n, err := fares.Units(x); (whole{n, err}) != want {
		t.Errorf("Units(%v): %d, %d, want %v", x, n, err, want)
	}
}

// P26.2 to P26.4: the chapter's first and second examples.
func TestExamples(t *testing.T) {
	both := []api.Fare{dear, cheap}
	wantValues(t, both[:1], 3, 0, 100, 150, 150)
	wantValues(t, both, 3, 0, 100, 150, 190)
	wantLimits(t, both, 3, 3, 1)
	wantBid(t, both, 3, 40)
	wantBid(t, both[:1], 3, 0)
	wantBid(t, both[:1], 0, 0)
}

// P26.1: the chapter's third example.
func TestRefusedExamples(t *testing.T) {
	wantNoFares(t, nil)
	wantNoFares(t, slices.Repeat([]api.Fare{dear}, 17))
	for _, price := range []float64{-1, math.NaN(), math.Inf(1), 1 << 41} {
		wantNoFares(t, with(price, 1))
	}
	wantNoFares(t, []api.Fare{cheap, dear})
	wantNoFares(t, with(1))
	wantNoFares(t, with(1, append(make([]float64, 256), 1)...))
	wantNoFares(t, with(1, -0.1, 1.1))
	wantNoFares(t, with(1, 0.5))
	wantNoFares(t, with(1, math.NaN()))
	wantRefused(t, []api.Fare{dear}, -1, api.ErrArg)
	wantRefused(t, []api.Fare{dear}, 1025, api.ErrArg)
}

// P26.1: as many classes as may be, and no others.
func TestNumbersOfClasses(t *testing.T) {
	wantNoFares(t, []api.Fare{})
	for n := 1; n <= 16; n++ {
		wantFares(t, slices.Repeat([]api.Fare{dear}, n))
	}
	for _, n := range []int{17, 18, 32, 256, 257, 65536} {
		l := slices.Repeat([]api.Fare{dear}, n)
		if err := fares.Check(l); err != api.ErrFares {
			t.Errorf("Check of %d classes: %d", n, err)
		}
		if v, err := fares.Values(l, 1); err != api.ErrFares || len(v) != 0 {
			t.Errorf("Values of %d classes: %v, %d", n, v, err)
		}
	}
}

// P26.1: each price from 0 to 2^40, in whatever class it stands.
func TestPrices(t *testing.T) {
	good := []float64{0, math.Copysign(0, -1), math.SmallestNonzeroFloat64, 0x1p-1022, 0.1, 1, 99.99, math.Nextafter(0x1p40, 0), 0x1p40}
	bad := []float64{math.NaN(), math.Copysign(math.NaN(), -1), math.Inf(1), math.Inf(-1), -math.SmallestNonzeroFloat64, -1, -0x1p40,
		math.Nextafter(0x1p40, math.MaxFloat64), 0x1p41, math.MaxFloat64, -math.MaxFloat64}
	for _, price := range good {
		wantFares(t, with(price, 1))
		wantFares(t, with(price, 0, 0.5, 0.5))
	}
	for _, price := range bad {
		wantNoFares(t, with(price, 1))
		for at := range 16 {
			l := slices.Repeat(with(0, 0, 1), 16)
			for j := range at {
				l[j].Price = 0x1p40
			}
			wantCheck(t, l, api.OK)
			l[at].Price = price
			wantNoFares(t, l)
		}
	}
}

// P26.1: no class is dearer than the one ahead, be it by the least that may be; one that is as dear is taken.
func TestDearestFirst(t *testing.T) {
	for _, price := range []float64{0, 0.1, 1, 100, math.Nextafter(0x1p40, 0)} {
		for at := 1; at < 16; at++ {
			l := slices.Repeat(with(price, 0, 1), 16)
			wantFares(t, l)
			l[at].Price = math.Nextafter(price, math.Inf(1))
			wantNoFares(t, l)
			for j := range at {
				l[j].Price = l[at].Price
			}
			wantFares(t, l)
		}
	}
	wantFares(t, []api.Fare{{Price: math.Copysign(0, -1), Chance: sure(1)}, {Price: 0, Chance: sure(1)}})
	wantNoFares(t, []api.Fare{{Price: 3, Chance: sure(1)}, {Price: 1, Chance: sure(1)}, {Price: 2, Chance: sure(1)}})
}

// P26.1: 1 to 256 chances, in whatever class they stand.
func TestNumbersOfChances(t *testing.T) {
	for _, n := range []int{1, 2, 3, 255, 256} {
		wantFares(t, with(1, sure(n-1)...))
	}
	for _, n := range []int{0, 257, 258, 512, 65536} {
		for at := range 3 {
			l := slices.Repeat(with(1, 1), 3)
			l[at].Chance = make([]float64, n)
			if n > 0 {
				l[at].Chance[n/2] = 1
			}
			if err := fares.Check(l); err != api.ErrFares {
				t.Errorf("%d chances in the class %d: %d", n, at, err)
			}
		}
	}
}

// P26.1: each chance from 0 to 1, at whatever place it stands.
func TestChances(t *testing.T) {
	for _, c := range []float64{0, math.Copysign(0, -1), math.SmallestNonzeroFloat64, 0.25, 0.5, 1 - 0x1p-53, 1} {
		for at := range 3 {
			l := make([]float64, 3)
			l[at], l[(at+1)%3] = c, 1-c
			wantFares(t, with(7, l...))
			wantFares(t, []api.Fare{dear, {Price: 7, Chance: l}})
		}
	}
	for _, c := range []float64{math.NaN(), math.Inf(1), math.Inf(-1), -math.SmallestNonzeroFloat64, -0x1p-60, -1, math.Nextafter(1, 2), 2, math.MaxFloat64} {
		for _, n := range []int{2, 3, 256} {
			for _, at := range []int{0, 1, n - 1} {
				l := make([]float64, n)
				l[(at+1)%n] = min(max(1-c, 0), 1)
				l[at] = c
				wantNoFares(t, with(7, l...))
				wantNoFares(t, []api.Fare{dear, {Price: 7, Chance: l}})
			}
		}
	}
	wantNoFares(t, with(7, 1, -1, 1))
	wantNoFares(t, with(7, 0.5, 0.5, math.Inf(1), math.Inf(-1)))
}

// P26.1: sums at the ends of what may be, and next to them.
func TestSumsOfChances(t *testing.T) {
	least, most := 0.999999, 1.000001
	wantFares(t, with(1, least))
	wantNoFares(t, with(1, math.Nextafter(least, 0)))
	wantFares(t, with(1, 0.5, less(least, 0.5)))
	wantNoFares(t, with(1, 0.5, less(math.Nextafter(least, 0), 0.5)))
	wantFares(t, with(1, 1, less(most, 1)))
	wantFares(t, with(1, 0.5, 0.5, less(most, 1)))
	wantNoFares(t, with(1, 1, less(math.Nextafter(most, 2), 1)))
	for _, l := range [][]float64{{0}, make([]float64, 256), {0, 0.9}, {0.9, 0, 0.09}, {1, 1}, {0.6, 0.6}, slices.Repeat([]float64{1}, 256)} {
		wantNoFares(t, with(1, l...))
		wantNoFares(t, []api.Fare{dear, {Price: 1, Chance: l}, cheap})
	}
	wantFares(t, with(1, slices.Repeat([]float64{1.0 / 256}, 256)...))
}

// P26.1: chances are added from the first on, each sum rounded; from the last on some of these lists would be taken
// that are refused, and others refused that are taken.
func TestOrderOfChances(t *testing.T) {
	next := numbers(1)
	taken, refused := 0, 0
	for range 4000 {
		l := chancesOf(next, 3+int(next()%12))
		rest := 0.0
		for _, c := range l[1:] {
			rest = plus(rest, c)
		}
		l[0] = less([]float64{0.999999, 1.000001}[next()%2], rest)
		if l[0] < 0 || l[0] > 1 {
			continue
		}
		forward, backward := 0.0, 0.0
		for k := range l {
			forward = plus(forward, l[k])
			backward = plus(backward, l[len(l)-1-k])
		}
		may := forward >= 0.999999 && forward <= 1.000001
		otherwise := backward >= 0.999999 && backward <= 1.000001
		if may && !otherwise {
			taken++
		}
		if !may && otherwise {
			refused++
		}
		if may {
			wantFares(t, with(9, l...))
		} else {
			wantNoFares(t, with(9, l...))
		}
	}
	if taken < 50 || refused < 50 {
		t.Errorf("too few lists in which the order shows: %d, %d", taken, refused)
	}
}

// P26.1: as many seats as may be, and no others; fares that may not be are told ahead of them.
func TestNumbersOfSeats(t *testing.T) {
	for _, l := range [][]api.Fare{{dear}, {dear, cheap}, with(0, 1)} {
		for _, seats := range []int{math.MinInt, -1025, -2, -1, 1025, 1026, 65536, 1 << 32, math.MaxInt} {
			wantRefused(t, l, seats, api.ErrArg)
			wantRefused(t, append(copyOf(l), api.Fare{Price: -1}), seats, api.ErrFares)
		}
		for _, seats := range []int{0, 1, 1023, 1024} {
			v, errValues := fares.Values(l, seats)
			n, errLimits := fares.Limits(l, seats)
			_, errBid := fares.Bid(l, seats)
			if errValues != api.OK || len(v) != seats+1 || errLimits != api.OK || len(n) != len(l) || errBid != api.OK {
				t.Errorf("%d seats: %d floats, %d; %v, %d; %d", seats, len(v), errValues, n, errLimits, errBid)
			}
		}
	}
}

// P26.2 to P26.4: few classes and seats, to the last bit.
func TestFewSeats(t *testing.T) {
	next := numbers(2)
	for range 250 {
		l := faresOf(next, 5, 7)
		seats := int(next() % 13)
		table := tableOf(l, seats)
		wantValues(t, l, seats, table[len(l)]...)
		wantLimits(t, l, seats, limitsOf(l, table)...)
		for x := range seats + 1 {
			wantBid(t, l, x, bidOf(table[len(l)], x))
		}
	}
}

// P26.2 to P26.4: prices at the ends of what may be.
func TestEdgesOfPrices(t *testing.T) {
	next := numbers(3)
	nought := math.Copysign(0, -1)
	for _, prices := range [][]float64{{0x1p40, 0x1p40}, {0x1p40, math.Nextafter(0x1p40, 0), 0x1p39}, {0x1p40, 1e-6, 0}, {0, 0}, {nought, 0, nought},
		{1, nought}, {math.SmallestNonzeroFloat64, math.SmallestNonzeroFloat64}, {0x1p-1021, 0x1p-1022, 0x1p-1030}, {0x1p40, 0x1p-1074, 0}} {
		for range 6 {
			var l []api.Fare
			for _, price := range prices {
				l = append(l, api.Fare{Price: price, Chance: chancesOf(next, 1+int(next()%6))})
			}
			l[0].Chance = append([]float64{nought}, l[0].Chance...)
			table := tableOf(l, 9)
			wantValues(t, l, 9, table[len(l)]...)
			wantLimits(t, l, 9, limitsOf(l, table)...)
			wantBid(t, l, 9, bidOf(table[len(l)], 9))
		}
	}
}

// P26.2, P26.3: all classes, chances and seats that may be; each row is made of the one that the classes ahead have.
func TestMostOfAll(t *testing.T) {
	next := numbers(4)
	var l []api.Fare
	for _, price := range []float64{999.99, 700, 512.35, 512.35, 400.1, 333.33, 300, 250.75, 200, 199.9, 150, 120.2, 99.95, 60, 0.1, 0} {
		l = append(l, api.Fare{Price: price, Chance: chancesOf(next, 256)})
	}
	limits, err := fares.Limits(l, 1024)
	if err != api.OK || len(limits) != 16 {
		t.Fatalf("Limits of 16 classes: %v, %d", limits, err)
	}
	ahead := make([]float64, 1025)
	for j, f := range l {
		if want := limitOf(f.Price, ahead); limits[j] != want {
			t.Errorf("the class %d may have %d, want %d", j, limits[j], want)
		}
		v, err := fares.Values(l[:j+1], 1024)
		if err != api.OK || len(v) != 1025 {
			t.Fatalf("Values of %d classes: %d floats, %d", j+1, len(v), err)
		}
		for _, x := range []int{0, 1, 254, 256, int(next() % 1025), 1024} {
			if want := fastValueOf(f, ahead, x); !same(v[x], want) {
				t.Errorf("%d classes, %d seats: %v, want %v", j+1, x, v[x], want)
			}
		}
		ahead = v
	}
	wantBid(t, l, 1024, less(ahead[1024], ahead[1023]))
}

// fastValueOf is valueOf without asking for the best of fewer people anew.
func fastValueOf(f api.Fare, ahead []float64, x int) float64 {
	sum, best := 0.0, 0.0
	for k, c := range f.Chance {
		if k <= x {
			best = max(best, plus(times(float64(k), f.Price), ahead[x-k]))
		}
		sum = plus(sum, times(c, best))
	}
	return sum
}

// otherRows: what of the ways to make a row that the document does not mean comes to another one.
type otherRows struct {
	product, chance, backward, tail, early int
}

func (o *otherRows) look(f api.Fare, ahead []float64, x int, want float64) {
	fused, after, backward, tail, left := 0.0, 0.0, 0.0, 0.0, 0.0
	last := len(f.Chance) - 1
	for k, c := range f.Chance {
		best, bestFused := 0.0, 0.0
		for u := range min(k, x) + 1 {
			best = max(best, plus(times(float64(u), f.Price), ahead[x-u]))
			bestFused = max(bestFused, math.FMA(float64(u), f.Price, ahead[x-u]))
		}
		fused = plus(fused, times(c, bestFused))
		after = math.FMA(c, best, after)
		backward = plus(backward, times(f.Chance[last-k], bestOf(f.Price, ahead, last-k, x)))
		if k < x {
			tail = plus(tail, times(c, best))
		} else {
			left = plus(left, c)
		}
	}
	tail = plus(tail, times(left, bestOf(f.Price, ahead, x, x)))
	for _, y := range []struct {
		value float64
		count *int
	}{{fused, &o.product}, {after, &o.chance}, {backward, &o.backward}, {tail, &o.tail}, {rounded(exactValue(f, ahead, x)), &o.early}} {
		if !same(y.value, want) {
			*y.count++
		}
	}
}

// exactValue answers what x seats are worth if nothing is rounded on the way.
func exactValue(f api.Fare, ahead []float64, x int) *big.Float {
	sum := blank()
	for k, c := range f.Chance {
		best := blank()
		for u := range min(k, x) + 1 {
			y := blank().Mul(exact(float64(u)), exact(f.Price))
			if y.Add(y, exact(ahead[x-u])).Cmp(best) > 0 {
				best = y
			}
		}
		sum.Add(sum, best.Mul(best, exact(c)))
	}
	return sum
}

// P26.2: rows in which it would show that a product or a sum is not rounded by itself, that chances are added from
// the last on, or that those who find no seat are taken together.
func TestValuesWhereRoundingShows(t *testing.T) {
	next := numbers(5)
	var shows otherRows
	for range 500 {
		l := faresOf(next, 3, 6)
		if next()%2 == 0 { // where all is added to nought at once, what the last bit of a best is shows best
			for j := range l {
				l[j].Chance = sure(1 + int(next()%8))
			}
		}
		table := tableOf(l, 8)
		for j, f := range l {
			for x, want := range table[j+1] {
				shows.look(f, table[j], x, want)
			}
		}
		wantValues(t, l, 8, table[len(l)]...)
	}
	if shows.product < 20 || shows.chance < 100 || shows.backward < 100 || shows.tail < 100 || shows.early < 100 {
		t.Errorf("too few rows in which it shows: %v", shows)
	}
}

// P26.2: not all who ask need be let in, and seats are kept for dearer classes only as far as these are likely to come.
func TestBestIsNotAlwaysAll(t *testing.T) {
	l := []api.Fare{{Price: 100, Chance: sure(2)}, {Price: 30, Chance: sure(5)}}
	wantValues(t, l, 9, 0, 100, 200, 230, 260, 290, 320, 350, 350, 350)
	wantLimits(t, l, 9, 9, 7)
	wantLimits(t, l, 2, 2, 0)
	l[0].Chance = []float64{0.75, 0.125, 0.125}
	wantValues(t, l, 3, 0, 30, 60, 90)
	wantLimits(t, l, 3, 3, 3)
}

// P26.3: a seat that is worth as much to the classes ahead may be sold; one that is worth the least bit more not.
func TestLimitsAtTheSamePrice(t *testing.T) {
	for _, price := range []float64{0, 1, 50, 0x1p40} {
		l := []api.Fare{{Price: price, Chance: sure(4)}, {Price: price, Chance: sure(1)}}
		wantLimits(t, l, 4, 4, 4)
		wantLimits(t, l, 6, 6, 6)
		if price > 0 {
			l[1].Price = math.Nextafter(price, 0)
			wantLimits(t, l, 1, 1, 0)
			wantLimits(t, l, 6, 6, 5) // what is added to 1, 2 and 3 prices is rounded up
			l[1].Price = price / 2
			wantLimits(t, l, 6, 6, 2)
		}
	}
	wantLimits(t, with(0, 1), 0, 0)
	wantLimits(t, []api.Fare{dear, cheap}, 0, 0, 0)
}

// P26.3: the sum of the price and a value is rounded, so that a seat that may be sold can lie behind one that may
// not; the first one that may not ends it. Where values are subtracted instead other limits come out.
func TestLimitsWhereRoundingShows(t *testing.T) {
	next := numbers(6)
	behind, subtracted := 0, 0
	for range 500 {
		price := float64(1+next()%30000) / 100
		l := []api.Fare{{Price: price, Chance: chancesOf(next, 5)}, {Price: price, Chance: sure(int(next() % 8))}, {Price: price, Chance: chancesOf(next, 3)}}
		table := tableOf(l, 20)
		limits := limitsOf(l, table)
		for j := range l {
			last, fewer := 0, 0
			for i := 1; i <= 20; i++ {
				if holdsAt(price, table[j], i) {
					last = i
				}
				if fewer == i-1 && price >= less(table[j][20-i+1], table[j][20-i]) {
					fewer = i
				}
			}
			if last != limits[j] {
				behind++
			}
			if fewer != limits[j] {
				subtracted++
			}
		}
		wantLimits(t, l, 20, limits...)
	}
	if behind < 20 || subtracted < 20 {
		t.Errorf("too few limits in which it shows: %d, %d", behind, subtracted)
	}
}

// P26.4: what the values' difference is, rounded, at any number of seats, and +0 where it is 0.
func TestBid(t *testing.T) {
	next := numbers(7)
	for range 40 {
		l := faresOf(next, 4, 40)
		v, err := fares.Values(l, 90)
		if err != api.OK {
			t.Fatalf("Values(%v, 90): %d", l, err)
		}
		for x := range v {
			wantBid(t, l, x, bidOf(v, x))
		}
	}
	wantBid(t, with(100, sure(3)...), 3, 100)
	wantBid(t, with(100, sure(3)...), 4, 0)
	wantBid(t, with(100, 1), 1024, 0)
}

// P26.5: the chapter's fourth example.
func TestUnitsExamples(t *testing.T) {
	wantUnits(t, 12.345, whole{n: 1234})
	wantUnits(t, 0.015, whole{n: 2})
	wantUnits(t, -0.005, whole{})
	for _, x := range []float64{math.NaN(), math.Inf(1), math.Inf(-1), 1e300} {
		wantUnits(t, x, whole{err: api.ErrReal})
	}
}

// P26.5: halves and the ends of what fits, with the floats next to them.
func TestUnitsAtTheEdges(t *testing.T) {
	var l []float64
	for k := -2000; k <= 2000; k++ {
		l = append(l, float64(k)/200, float64(k)/1000)
	}
	for bit := -2; bit < 66; bit++ {
		l = append(l, math.Ldexp(1, bit)/100, (math.Ldexp(1, bit)-0.5)/100, (math.Ldexp(1, bit)+0.5)/100, math.Ldexp(1, bit))
	}
	l = append(l, 0x1p63/100, 92233720368547758.07, math.MaxFloat64, math.MaxFloat64/100, 1e16, 1e17, math.SmallestNonzeroFloat64, 0x1p-1022)
	for _, x := range l {
		for _, y := range []float64{x, math.Nextafter(x, math.Inf(1)), math.Nextafter(x, math.Inf(-1))} {
			wantUnits(t, y, unitsOf(y))
			wantUnits(t, -y, unitsOf(-y))
		}
	}
	wantUnits(t, math.Copysign(0, -1), whole{})
	wantUnits(t, 92233720368547758.08, whole{err: api.ErrReal})
	wantUnits(t, -92233720368547758.08, whole{n: math.MinInt64})
	wantUnits(t, math.Nextafter(-92233720368547758.08, -1e300), whole{err: api.ErrReal})
	wantUnits(t, math.Nextafter(92233720368547758.08, 0), unitsOf(math.Nextafter(92233720368547758.08, 0)))
	wantUnits(t, math.MaxFloat64, whole{err: api.ErrReal})
	wantUnits(t, math.MaxFloat64/50, whole{err: api.ErrReal})
}

// P26.5: the product is rounded ahead of asking for the nearest whole number; that shows in some of these.
func TestUnits(t *testing.T) {
	next := numbers(8)
	shows := 0
	for range 20000 {
		wild := math.Float64frombits(next())
		wantUnits(t, wild, unitsOf(wild))
		near := math.Ldexp(float64(int64(next())), -int(next()%80))
		wantUnits(t, near, unitsOf(near))
		half := (float64(int64(next())>>(20+next()%44)) + 0.5) / 100
		want := unitsOf(half)
		wantUnits(t, half, want)
		if want != nearestOf(blank().Mul(exact(half), exact(100))) {
			shows++
		}
	}
	if shows < 1000 {
		t.Errorf("only %d numbers in which it shows", shows)
	}
}

// P26.6: no seats are worth nothing; the first class may have all, and no class less than none or more than all.
func TestWhatFollows(t *testing.T) {
	next := numbers(9)
	for range 300 {
		l := faresOf(next, 16, 20)
		seats := int(next() % 60)
		v, errValues := fares.Values(l, seats)
		n, errLimits := fares.Limits(l, seats)
		if errValues != api.OK || errLimits != api.OK || len(v) != seats+1 || len(n) != len(l) {
			t.Fatalf("%v, %d seats: %d floats, %d; %v, %d", l, seats, len(v), errValues, n, errLimits)
		}
		if !same(v[0], 0) || n[0] != seats || slices.Min(n) < 0 || slices.Max(n) > seats {
			t.Errorf("%v, %d seats: %v of none, %v", l, seats, v[0], n)
		}
		wantBid(t, l, 0, 0)
	}
}

// P26.6: of a class of which surely k ask as many seats are worth their price as there are and are asked for.
func TestWhatIsSure(t *testing.T) {
	for _, k := range []int{0, 1, 2, 7, 100, 255} {
		for _, price := range []float64{0, 0.1, 19.99, 100, math.Nextafter(0x1p40, 0), 0x1p40} {
			want := make([]float64, 1025)
			for x := range want {
				want[x] = times(float64(min(k, x)), price)
			}
			v, err := fares.Values(with(price, sure(k)...), 1024)
			if err != api.OK || !slices.EqualFunc(v, want, same) {
				t.Errorf("%d people at %v: %v, %d", k, price, v, err)
			}
		}
	}
}

// P26.6: what comes of the first classes does not hang on the others, nor on how many seats there are beyond.
func TestFirstClassesAlone(t *testing.T) {
	next := numbers(10)
	for range 40 {
		l := faresOf(next, 16, 12)
		all, _ := fares.Limits(l, 30)
		for j := 1; j <= len(l); j++ {
			wantLimits(t, l[:j], 30, all[:j]...)
		}
		most, _ := fares.Values(l, 100)
		for _, x := range []int{0, 1, 30, 99} {
			wantValues(t, l, x, most[:x+1]...)
		}
	}
}

// R3: fares are not changed, nor is what lies behind their ends.
func TestFaresStay(t *testing.T) {
	next := numbers(11)
	for range 50 {
		l := faresOf(next, 16, 20)
		for j := range l {
			n := len(l[j].Chance)
			l[j].Chance = append(l[j].Chance, math.NaN(), -7, 3)[:n]
		}
		n := len(l)
		l = append(l, api.Fare{Price: math.NaN()}, api.Fare{Price: -1, Chance: []float64{5}})[:n]
		before := copyOf(l)
		fares.Check(l)
		fares.Values(l, 40)
		fares.Limits(l, 40)
		fares.Bid(l, 40)
		for j, f := range l {
			rest := f.Chance[:len(f.Chance)+3][len(f.Chance):]
			if f.Price != before[j].Price || !slices.EqualFunc(f.Chance, before[j].Chance, same) || !math.IsNaN(rest[0]) || rest[1] != -7 || rest[2] != 3 {
				t.Fatalf("the class %d has become %v, was %v", j, f, before[j])
			}
		}
		rest := l[:n+2][n:]
		if !math.IsNaN(rest[0].Price) || rest[0].Chance != nil || rest[1].Price != -1 || rest[1].Chance[0] != 5 {
			t.Fatalf("behind the fares lies %v", rest)
		}
	}
}

// R3: what is told is new memory, and what is written there shows nowhere, nor does what the fares become later.
func TestAnswersAreNew(t *testing.T) {
	l := []api.Fare{{Price: 100, Chance: []float64{0, 0.5, 0.5}}, {Price: 40, Chance: []float64{0, 0, 1}}}
	a, _ := fares.Values(l, 3)
	b, _ := fares.Values(l, 3)
	m, _ := fares.Limits(l, 3)
	n, _ := fares.Limits(l, 3)
	for k := range a[:cap(a)] {
		a[:cap(a)][k] = 7
	}
	for k := range m[:cap(m)] {
		m[:cap(m)][k] = 7
	}
	wantValues(t, l, 3, 0, 100, 150, 190)
	wantLimits(t, l, 3, 3, 1)
	l[0].Price, l[0].Chance[1], l[1].Chance[2] = 41, 0.25, 0
	if !slices.Equal(b, []float64{0, 100, 150, 190}) || !slices.Equal(n, []int{3, 1}) {
		t.Errorf("told before: %v, %v", b, n)
	}
}

// R6, R7: calls at one time over the same fares, and calls behind others that were refused, answer the same.
func TestAtOneTime(t *testing.T) {
	next := numbers(12)
	var rows [][]api.Fare
	var tables [][][]float64
	for range 6 {
		l := faresOf(next, 4, 5)
		rows, tables = append(rows, l), append(tables, tableOf(l, 7))
	}
	var all sync.WaitGroup
	for range 8 {
		all.Go(func() {
			for i, l := range rows {
				fares.Values(nil, 7)
				wantValues(t, l, 7, tables[i][len(l)]...)
				fares.Limits(l, -1)
				wantLimits(t, l, 7, limitsOf(l, tables[i])...)
				fares.Bid(with(math.NaN(), 1), 7)
				wantBid(t, l, 7, bidOf(tables[i][len(l)], 7))
				fares.Units(math.NaN())
				wantUnits(t, 12.345, whole{n: 1234})
			}
		})
	}
	all.Wait()
}

package fares_test

import (
	"math"
	"math/big"
	"slices"

	"gangway/api"
)

// The document's words by another way than the package goes: what it is held against.

// exact answers x with so many bits that what is made of two floats by one operation needs no rounding.
func exact(x float64) *big.Float {
	return new(big.Float).SetPrec(1200).SetFloat64(x)
}

func blank() *big.Float {
	return new(big.Float).SetPrec(1200)
}

func rounded(x *big.Float) float64 {
	f, _ := x.Float64()
	return f
}

func times(a, b float64) float64 { return rounded(blank().Mul(exact(a), exact(b))) }
func plus(a, b float64) float64  { return rounded(blank().Add(exact(a), exact(b))) }
func less(a, b float64) float64  { return rounded(blank().Sub(exact(a), exact(b))) }

// bestOf answers the greatest that comes of selling u of x seats to k people, the others being worth what ahead says.
func bestOf(price float64, ahead []float64, k, x int) float64 {
	var l []float64
	for u := range min(k, x) + 1 {
		l = append(l, plus(times(float64(u), price), ahead[x-u]))
	}
	return slices.Max(l)
}

// valueOf answers what x seats are worth with the class f, ahead being what they are worth without it.
func valueOf(f api.Fare, ahead []float64, x int) float64 {
	sum := 0.0
	for k, c := range f.Chance {
		sum = plus(sum, times(c, bestOf(f.Price, ahead, k, x)))
	}
	return sum
}

// tableOf answers for no class, the first one, the first two and so on what the seats are worth.
func tableOf(l []api.Fare, seats int) [][]float64 {
	table := [][]float64{make([]float64, seats+1)}
	for j, f := range l {
		row := make([]float64, seats+1)
		for x := range row {
			row[x] = valueOf(f, table[j], x)
		}
		table = append(table, row)
	}
	return table
}

// holdsAt tells whether the i-th seat from the last one on may be sold at the price.
func holdsAt(price float64, ahead []float64, i int) bool {
	seats := len(ahead) - 1
	return !(plus(price, ahead[seats-i]) < ahead[seats-i+1])
}

func limitOf(price float64, ahead []float64) int {
	limit := 0
	for u := range ahead {
		all := true
		for i := 1; i <= u; i++ {
			all = all && holdsAt(price, ahead, i)
		}
		if all {
			limit = u
		}
	}
	return limit
}

func limitsOf(l []api.Fare, table [][]float64) []int {
	limits := make([]int, len(l))
	for j, f := range l {
		limits[j] = limitOf(f.Price, table[j])
	}
	return limits
}

func bidOf(values []float64, seats int) float64 {
	if seats == 0 {
		return 0
	}
	return less(values[seats], values[seats-1])
}

// whole is what Units tells.
type whole struct {
	n   int64
	err api.Errno
}

func unitsOf(x float64) whole {
	if math.IsNaN(x) {
		return whole{err: api.ErrReal}
	}
	y := times(x, 100)
	if math.IsInf(y, 0) {
		return whole{err: api.ErrReal}
	}
	return nearestOf(exact(y))
}

func nearestOf(x *big.Float) whole {
	n, _ := x.Int(nil) // towards 0
	rest := blank().Sub(x, blank().SetInt(n))
	half := rest.Abs(rest).Cmp(exact(0.5))
	if half > 0 || half == 0 && n.Bit(0) == 1 {
		n.Add(n, big.NewInt(int64(x.Sign())))
	}
	if !n.IsInt64() {
		return whole{err: api.ErrReal}
	}
	return whole{n: n.Int64()}
}

// numbers tells as many numbers of 64 bits as one asks for, the same ones every time.
func numbers(seed uint64) func() uint64 {
	return func() uint64 {
		seed += 0x9E3779B97F4A7C15
		x := seed
		x = (x ^ x>>30) * 0xBF58476D1CE4E5B9
		x = (x ^ x>>27) * 0x94D049BB133111EB
		return x ^ x>>31
	}
}

// part answers a float from 0 on, below 1.
func part(next func() uint64) float64 {
	return float64(next()>>11) / (1 << 53)
}

// chancesOf answers so many chances, some of them 0, whose sum lies at 1 or a little above or below it.
func chancesOf(next func() uint64, count int) []float64 {
	l := make([]float64, count)
	sum := 0.0
	for k := range l {
		if next()%5 > 0 {
			l[k] = part(next)
		}
		sum += l[k]
	}
	if sum == 0 {
		l[0], sum = 1, 1
	}
	off := 1 + float64(int(next()%3)-1)*9e-7
	for k := range l {
		l[k] = min(l[k]/sum*off, 1)
	}
	return l
}

func priceOf(next func() uint64) float64 {
	switch next() % 5 {
	case 0:
		return part(next)
	case 1:
		return float64(next() % 300)
	case 2:
		return math.Ldexp(part(next), int(next()%200)-160)
	default:
		return float64(next()%30000) / 100
	}
}

// pricesOf answers prices that fall, or that are all the same.
func pricesOf(next func() uint64, count int) []float64 {
	one := priceOf(next)
	alike := next()%4 == 0
	l := make([]float64, count)
	for j := range l {
		l[j] = one
		if !alike {
			l[j] = priceOf(next)
		}
	}
	slices.Sort(l)
	slices.Reverse(l)
	return l
}

// faresOf answers fares that may be, of at most so many classes and chances a class.
func faresOf(next func() uint64, classes, chances int) []api.Fare {
	var l []api.Fare
	for _, price := range pricesOf(next, 1+int(next()%uint64(classes))) {
		l = append(l, api.Fare{Price: price, Chance: chancesOf(next, 1+int(next()%uint64(chances)))})
	}
	return l
}

// sure answers the chances of just k people.
func sure(k int) []float64 {
	l := make([]float64, k+1)
	l[k] = 1
	return l
}

// copyOf answers fares that share nothing with l.
func copyOf(l []api.Fare) []api.Fare {
	out := slices.Clone(l)
	for j := range out {
		out[j].Chance = slices.Clone(out[j].Chance)
	}
	return out
}

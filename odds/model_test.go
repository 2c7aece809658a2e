package odds_test

import (
	"math"
	"math/big"

	"gangway/api"
)

// The document's words by another way than the package goes: what it is held against.

// exact answers x with so many bits that what is made of two floats by one operation needs no rounding.
func exact(x float64) *big.Float {
	return new(big.Float).SetPrec(1200).SetFloat64(x)
}

func blank() *big.Float {
	return new(big.Float).SetPrec(1200)
}

func rounded(x *big.Float) float64 {
	f, _ := x.Float64()
	return f
}

func times(a, b float64) float64 { return rounded(blank().Mul(exact(a), exact(b))) }
func plus(a, b float64) float64  { return rounded(blank().Add(exact(a), exact(b))) }
func less(a, b float64) float64  { return rounded(blank().Sub(exact(a), exact(b))) }

// floatAt answers the k-th float of the row; 0, where there is none.
func floatAt(row []float64, k int) float64 {
	if k < 0 || k >= len(row) {
		return 0
	}
	return row[k]
}

// nextFloat answers the k-th float of the row of one more.
func nextFloat(row []float64, k int, p float64) float64 {
	return plus(times(floatAt(row, k), less(1, p)), times(floatAt(row, k-1), p))
}

func nextRow(row []float64, p float64) []float64 {
	l := make([]float64, len(row)+1)
	for k := range l {
		l[k] = nextFloat(row, k, p)
	}
	return l
}

func rowOf(n int, p float64) []float64 {
	row := []float64{1}
	for range n {
		row = nextRow(row, p)
	}
	return row
}

// aboveOf answers what stands in the row behind the place, added up.
func aboveOf(row []float64, place int) float64 {
	sum := 0.0
	for back := range row {
		if k := len(row) - 1 - back; k > place {
			sum = plus(sum, row[k])
		}
	}
	return sum
}

func limitOf(seats int, p, risk float64) int {
	n := seats
	for row := rowOf(seats, p); n < 4*seats+16 && n < 4096; n++ {
		row = nextRow(row, p)
		if aboveOf(row, seats) > risk {
			break
		}
	}
	return n
}

// whole is what Nearest tells.
type whole struct {
	n   int64
	err api.Errno
}

func nearestOf(x float64) whole {
	if math.IsNaN(x) || math.IsInf(x, 0) {
		return whole{err: api.ErrReal}
	}
	n, _ := exact(x).Int(nil) // towards 0
	rest := blank().Sub(exact(x), blank().SetInt(n))
	half := rest.Abs(rest).Cmp(exact(0.5))
	if half > 0 || half == 0 && n.Bit(0) == 1 {
		n.Add(n, big.NewInt(int64(math.Copysign(1, x))))
	}
	if !n.IsInt64() {
		return whole{err: api.ErrReal}
	}
	return whole{n: n.Int64()}
}

// numbers tells as many numbers of 64 bits as one asks for, the same ones every time.
func numbers(seed uint64) func() uint64 {
	return func() uint64 {
		seed += 0x9E3779B97F4A7C15
		x := seed
		x = (x ^ x>>30) * 0xBF58476D1CE4E5B9
		x = (x ^ x>>27) * 0x94D049BB133111EB
		return x ^ x>>31
	}
}

// edges are likelihoods at the ends of what may be, and some of which a sum of products is not exact.
func edges() []float64 {
	return []float64{0, math.Copysign(0, -1), math.SmallestNonzeroFloat64, 0x1p-1022, 1e-300, 0x1p-60, 1e-9, 0.1, 0.25, 0.3,
		1.0 / 3, 0.5, math.Nextafter(0.5, 0), math.Nextafter(0.5, 1), 0.7, 0.9, 0.99, 1 - 1e-9, 1 - 0x1p-52, 1 - 0x1p-53, 1}
}

// likelihoods are the edges and n others, some of them near 0, some near 1 and some decimal ones.
func likelihoods(seed uint64, n int) []float64 {
	l := edges()
	next := numbers(seed)
	for range n {
		p := float64(next()>>11) / (1 << 53)
		switch next() % 4 {
		case 0:
			p = math.Ldexp(p, -int(next()%1074))
		case 1:
			p = 1 - math.Ldexp(p, -int(next()%54))
		case 2:
			p = float64(next()%1000) / 1000
		}
		l = append(l, p)
	}
	return l
}

// unlikely are floats that are no likelihoods.
func unlikely() []float64 {
	return []float64{math.NaN(), math.Inf(1), math.Inf(-1), -math.SmallestNonzeroFloat64, math.Nextafter(1, 2), -1, 1.5, 2,
		math.MaxFloat64, -math.MaxFloat64}
}

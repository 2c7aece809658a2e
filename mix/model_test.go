package mix_test

import "math/big"

// The document's words, with numbers of any greatness: what the package is held against.

var (
	modulus = new(big.Int).Lsh(big.NewInt(1), 64)
	m1      = base16("BF58476D1CE4E5B9")
	m2      = base16("94D049BB133111EB")
	gap     = base16("9E3779B97F4A7C15")
	begin   = base16("CBF29CE484222325")
	prime   = base16("100000001B3")
)

func base16(s string) *big.Int {
	n, ok := new(big.Int).SetString(s, 16)
	if !ok {
		panic(s)
	}
	return n
}

func big64(x uint64) *big.Int { return new(big.Int).SetUint64(x) }

// movedOf answers x with itself over 2^k, rounded down, by exclusive or.
func movedOf(x *big.Int, k int64) *big.Int {
	over := new(big.Int).Exp(big.NewInt(2), big.NewInt(k), nil)
	return new(big.Int).Xor(x, new(big.Int).Div(x, over))
}

func timesOf(x, y *big.Int) *big.Int {
	p := new(big.Int).Mul(x, y)
	return p.Mod(p, modulus)
}

func hashOf(x uint64) uint64 {
	n := timesOf(movedOf(big64(x), 30), m1)
	n = timesOf(movedOf(n, 27), m2)
	return movedOf(n, 31).Uint64()
}

func textOf(s string) uint64 { return textMore(begin.Uint64(), s) }

// textMore answers what the bytes of s make of a number.
func textMore(from uint64, s string) uint64 {
	n := big64(from)
	for _, x := range []byte(s) {
		n = timesOf(new(big.Int).Xor(n, big64(uint64(x))), prime)
	}
	return n.Uint64()
}

// wordOf answers the i-th word of a seed, from 1 on.
func wordOf(seed uint64, i int) uint64 {
	n := new(big.Int).Mul(big.NewInt(int64(i)), gap)
	n.Add(n, big64(seed))
	return hashOf(n.Mod(n, modulus).Uint64())
}

// numbers tells as many numbers of 64 bits as one asks for, the same ones every time.
func numbers(seed uint64) func() uint64 {
	half := func() uint64 {
		seed = seed*6364136223846793005 + 1442695040888963407
		return seed >> 32
	}
	return func() uint64 { return half()<<32 | half() }
}

func textsOf(next func() uint64, n int) string {
	b := make([]byte, n)
	for i := range b {
		b[i] = byte(next())
	}
	return string(b)
}

// edges are numbers at which shifts, turns and products go wrong first.
func edges() []uint64 {
	l := []uint64{0, ^uint64(0), 0xAAAAAAAAAAAAAAAA, 0x5555555555555555}
	l = append(l, m1.Uint64(), m2.Uint64(), gap.Uint64(), -gap.Uint64(), begin.Uint64(), prime.Uint64())
	for i := range 64 {
		l = append(l, 1<<i, ^uint64(1<<i), 1<<i-1, -uint64(1<<i))
	}
	return l
}

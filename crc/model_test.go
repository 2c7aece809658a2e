package crc_test

// The document's words, bit by bit: what the package is held against.

func stepOf(r uint32) uint32 {
	half := r / 2
	if r%2 == 1 {
		half ^= 0xEDB88320
	}
	return half
}

func byteStepOf(r uint32, x byte) uint32 {
	r ^= uint32(x)
	for range 8 {
		r = stepOf(r)
	}
	return r
}

func sumOf(b []byte) uint32 { return moreOf(0, b) }

func moreOf(sum uint32, b []byte) uint32 {
	r := sum ^ 0xFFFFFFFF
	for _, x := range b {
		r = byteStepOf(r, x)
	}
	return r ^ 0xFFFFFFFF
}

// moves is what becomes of each single bit; of a number it is what becomes of its bits, turned together.
type moves [32]uint32

func (m *moves) of(r uint32) uint32 {
	out := uint32(0)
	for i := range 32 {
		if r>>i&1 == 1 {
			out ^= m[i]
		}
	}
	return out
}

// noughtsOf answers the n-th nought's step of r, for an n of any greatness.
func noughtsOf(r uint32, n int) uint32 {
	var m moves
	for i := range m {
		m[i] = byteStepOf(1<<i, 0)
	}
	for ; n > 0; n /= 2 {
		if n%2 == 1 {
			r = m.of(r)
		}
		var twice moves
		for i := range twice {
			twice[i] = m.of(m[i])
		}
		m = twice
	}
	return r
}

// numbers tells as many numbers of 32 bits as one asks for, the same ones every time.
func numbers(seed uint64) func() uint32 {
	return func() uint32 {
		seed = seed*6364136223846793005 + 1442695040888963407
		return uint32(seed >> 32)
	}
}

func rowOf(next func() uint32, n int) []byte {
	b := make([]byte, n)
	for i := range b {
		b[i] = byte(next())
	}
	return b
}

// edges are numbers at which shifts and turns go wrong first.
func edges() []uint32 {
	l := []uint32{0, 0xFFFFFFFF, 0xEDB88320, 0x12477CDF, 0xAAAAAAAA, 0x55555555}
	for i := range 32 {
		l = append(l, 1<<i, ^uint32(1<<i))
	}
	return l
}

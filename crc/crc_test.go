package crc_test

import (
	"bytes"
	"math"
	"sync"
	"testing"

	"gangway/api"
	"gangway/crc"
)

// P3.1: the chapter's first example.
func TestSumExamples(t *testing.T) {
	for s, want := range map[string]uint32{"": 0, "123456789": 0xCBF43926, "\x00": 0xD202EF8D, "a": 0xE8B7BE43, "abc": 0x352441C2} {
		if got := crc.Sum([]byte(s)); got != want {
			t.Errorf("Sum(%q) = %08X, want %08X", s, got, want)
		}
	}
	if crc.Sum(nil) != 0 || crc.Sum([]byte{}) != 0 {
		t.Error("Sum of nothing is not 0")
	}
}

// P3.1: the chapter's second example, and nothing behind any number.
func TestMoreExamples(t *testing.T) {
	if got := crc.More(0, []byte("abc")); got != 0x352441C2 {
		t.Errorf("More(0, abc) = %08X", got)
	}
	if got := crc.More(crc.Sum([]byte("a")), []byte("bc")); got != 0x352441C2 {
		t.Errorf("More(Sum(a), bc) = %08X", got)
	}
	for _, sum := range append(edges(), 0x352441C2) {
		if a, b := crc.More(sum, nil), crc.More(sum, []byte{}); a != sum || b != sum {
			t.Errorf("More(%08X) of nothing = %08X, %08X", sum, a, b)
		}
	}
}

// P3.1: one byte of each worth, begun with any number.
func TestMoreOfEachByte(t *testing.T) {
	for _, sum := range edges() {
		for x := range 256 {
			b := []byte{byte(x)}
			if got, want := crc.More(sum, b), moreOf(sum, b); got != want {
				t.Fatalf("More(%08X, %d) = %08X, want %08X", sum, x, got, want)
			}
		}
	}
}

// P3.1: rows of any length.
func TestSumOfRows(t *testing.T) {
	next := numbers(1)
	for n := range 300 {
		for _, b := range [][]byte{rowOf(next, n), make([]byte, n), bytes.Repeat([]byte{255}, n)} {
			if got, want := crc.Sum(b), sumOf(b); got != want {
				t.Fatalf("Sum of %d bytes = %08X, want %08X", n, got, want)
			}
			sum := next()
			if got, want := crc.More(sum, b), moreOf(sum, b); got != want {
				t.Fatalf("More(%08X) of %d bytes = %08X, want %08X", sum, n, got, want)
			}
		}
	}
	long := rowOf(next, 1<<20+3)
	if got, want := crc.Sum(long), sumOf(long); got != want {
		t.Errorf("Sum of very many = %08X, want %08X", got, want)
	}
}

// P3.2: the chapter's third example.
func TestJoinExamples(t *testing.T) {
	if got := crc.Join(crc.Sum([]byte("a")), crc.Sum([]byte("bc")), 2); got != 0x352441C2 {
		t.Errorf("Join(Sum(a), Sum(bc), 2) = %08X", got)
	}
	if a, b := crc.Join(5, 3, 0), crc.Join(5, 3, -9); a != 6 || b != 6 {
		t.Errorf("Join(5, 3) of no bytes = %d, %d", a, b)
	}
	for _, b := range edges() {
		for _, n := range []int{math.MinInt, -1, 0, 1, 9, math.MaxInt} {
			if got := crc.Join(0, b, n); got != b {
				t.Errorf("Join(0, %08X, %d) = %08X", b, n, got)
			}
		}
	}
}

// P3.2: noughts' steps one by one, and none at 0 and below.
func TestJoinOfFew(t *testing.T) {
	next := numbers(2)
	for _, a := range edges() {
		r := a
		for n := range 200 {
			b := next()
			if got := crc.Join(a, b, n); got != r^b {
				t.Fatalf("Join(%08X, %08X, %d) = %08X, want %08X", a, b, n, got, r^b)
			}
			r = byteStepOf(r, 0)
		}
		for _, n := range []int{-1, -2, -64, math.MinInt32, math.MinInt + 1, math.MinInt} {
			if got := crc.Join(a, 77, n); got != a^77 {
				t.Fatalf("Join(%08X, 77, %d) = %08X", a, n, got)
			}
		}
	}
}

// P3.2: n may be as great as an int can be.
func TestJoinOfVeryMany(t *testing.T) {
	next := numbers(3)
	counts := []int{math.MaxInt, math.MaxInt - 1, math.MaxInt32, 1<<32 - 2, 1<<32 - 1, 1 << 32, 1<<40 + 5}
	for i := range 63 {
		counts = append(counts, 1<<i, int(next())<<31>>(i/2))
	}
	for _, n := range counts {
		for _, a := range append(edges(), next(), next()) {
			b := next()
			if got, want := crc.Join(a, b, n), noughtsOf(a, n)^b; got != want {
				t.Fatalf("Join(%08X, %08X, %d) = %08X, want %08X", a, b, n, got, want)
			}
		}
	}
}

// P3.3: the chapter's fourth example.
func TestPatchExamples(t *testing.T) {
	for _, c := range []struct {
		b    string
		at   int
		want string
	}{{"abcd", 0, "efgh"}, {"abcdef", 1, "aXYZWf"}, {"abcd", 0, "abcd"}} {
		p, err := crc.Patch([]byte(c.b), c.at, crc.Sum([]byte(c.want)))
		if err != api.OK || string(p) != c.want {
			t.Errorf("Patch(%q, %d, Sum(%q)) = %q, %d", c.b, c.at, c.want, p, err)
		}
	}
}

// P3.3: a place ahead of the row, or with fewer than four bytes from it on, is refused.
func TestPatchRefuses(t *testing.T) {
	next := numbers(4)
	for n := range 12 {
		b := rowOf(next, n)
		for _, at := range []int{math.MinInt, math.MinInt + 3, -5, -4, -3, -2, -1, n - 3, n - 2, n - 1, n, n + 1, math.MaxInt - 4, math.MaxInt} {
			if at >= 0 && at <= n-4 {
				continue
			}
			if p, err := crc.Patch(b, at, next()); err != api.ErrArg || len(p) != 0 {
				t.Errorf("Patch of %d bytes at %d: %v, %d", n, at, p, err)
			}
		}
	}
	for _, at := range []int{-1, 0, 1} {
		if p, err := crc.Patch(nil, at, 0); err != api.ErrArg || len(p) != 0 {
			t.Errorf("Patch of nil at %d: %v, %d", at, p, err)
		}
	}
}

// P3.3: at each place, whatever is wanted, four bytes alone are turned and the sum is there.
func TestPatchAtEachPlace(t *testing.T) {
	next := numbers(5)
	for n := 4; n < 48; n++ {
		b := rowOf(next, n)
		for at := 0; at <= n-4; at++ {
			for _, want := range append(edges(), next(), next()) {
				wantPatch(t, b, at, want)
			}
		}
	}
	long := rowOf(next, 100001)
	for _, at := range []int{0, 1, 50000, 99996, 99997} {
		wantPatch(t, long, at, next())
	}
}

func wantPatch(t *testing.T, b []byte, at int, want uint32) {
	t.Helper()
	p, err := crc.Patch(b, at, want)
	if err != api.OK || len(p) != len(b) {
		t.Fatalf("Patch of %d bytes at %d: %d bytes, %d", len(b), at, len(p), err)
	}
	if got := sumOf(p); got != want {
		t.Fatalf("Patch of %d bytes at %d: the sum is %08X, want %08X", len(b), at, got, want)
	}
	if !bytes.Equal(p[:at], b[:at]) || !bytes.Equal(p[at+4:], b[at+4:]) {
		t.Fatalf("Patch of %d bytes at %d turned others than the four", len(b), at)
	}
}

// P3.3: there is just one row; a row with other four bytes is brought back to what it was.
func TestPatchBringsBack(t *testing.T) {
	next := numbers(6)
	for n := 4; n < 40; n++ {
		was := rowOf(next, n)
		for at := 0; at <= n-4; at++ {
			other := bytes.Clone(was)
			copy(other[at:at+4], rowOf(next, 4))
			for _, b := range [][]byte{other, was} {
				if p, err := crc.Patch(b, at, sumOf(was)); err != api.OK || !bytes.Equal(p, was) {
					t.Fatalf("Patch of %d bytes at %d: %v, %d, want %v", n, at, p, err, was)
				}
			}
		}
	}
}

// P3.3, R3: the argument and the room behind its end stay, and the answer is new memory, even if it is b.
func TestPatchKeepsItsArgument(t *testing.T) {
	room := []byte("abcdefghij")
	b := room[2:7]
	for _, want := range []uint32{0, sumOf(b)} {
		p, err := crc.Patch(b, 1, want)
		if err != api.OK {
			t.Fatalf("Patch: %d", err)
		}
		p = append(p, "XXXX"...)
		for i := range p {
			p[i] = '-'
		}
		if string(room) != "abcdefghij" {
			t.Fatalf("Patch for %08X: the argument is %q", want, room)
		}
	}
	crc.Sum(b)
	crc.More(9, b)
	if string(room) != "abcdefghij" {
		t.Errorf("Sum or More: the argument is %q", room)
	}
}

// P3.4: More and Join both come to the sum of two rows, one behind the other.
func TestSumOfTwoRows(t *testing.T) {
	next := numbers(7)
	for n := range 80 {
		whole := rowOf(next, n)
		for cut := range n + 1 {
			a, b := whole[:cut], whole[cut:]
			more, join := crc.More(crc.Sum(a), b), crc.Join(crc.Sum(a), crc.Sum(b), len(b))
			if want := sumOf(whole); more != want || join != want {
				t.Fatalf("%d bytes cut at %d: More %08X, Join %08X, want %08X", n, cut, more, join, want)
			}
		}
	}
	a, b := rowOf(next, 70000), rowOf(next, 65537)
	if got, want := crc.Join(crc.Sum(a), crc.Sum(b), len(b)), sumOf(append(bytes.Clone(a), b...)); got != want {
		t.Errorf("Join of long rows = %08X, want %08X", got, want)
	}
}

// P3.4: rows whose unlike bits lie within 32 bits in order have unlike sums.
func TestUnlikeBitsWithin32(t *testing.T) {
	next := numbers(8)
	const n = 24
	b := rowOf(next, n)
	for from := 0; from <= 8*n-32; from++ {
		for _, turns := range append(edges(), next(), next(), next()) {
			if turns == 0 {
				continue
			}
			other := bytes.Clone(b)
			for i := range 32 {
				if turns>>i&1 == 1 {
					other[(from+i)/8] ^= 1 << ((from + i) % 8)
				}
			}
			if crc.Sum(other) == crc.Sum(b) {
				t.Fatalf("the bits of %08X turned from %d on: the sum is the same", turns, from)
			}
		}
	}
}

// P3.4: rows of one length turned together have their sums turned together.
func TestSumOfThreeRowsTurned(t *testing.T) {
	next := numbers(9)
	for n := range 100 {
		a, b, c := rowOf(next, n), rowOf(next, n), rowOf(next, n)
		all := make([]byte, n)
		for i := range all {
			all[i] = a[i] ^ b[i] ^ c[i]
		}
		if got, want := crc.Sum(all), crc.Sum(a)^crc.Sum(b)^crc.Sum(c); got != want {
			t.Fatalf("%d bytes: %08X, want %08X", n, got, want)
		}
	}
}

// R6, R7: calls at one time answer as calls one behind the other.
func TestAtOneTime(t *testing.T) {
	b := rowOf(numbers(10), 5000)
	sum := sumOf(b)
	joined := noughtsOf(sum, math.MaxInt)
	var g sync.WaitGroup
	for range 8 {
		g.Go(func() {
			for at := range 20 {
				p, err := crc.Patch(b, at, 5)
				if err != api.OK || crc.Sum(p) != 5 || crc.Sum(b) != sum || crc.Join(sum, 0, math.MaxInt) != joined {
					t.Errorf("at %d: other answers", at)
				}
			}
		})
	}
	g.Wait()
}

package bits_test

import (
	"math"
	"slices"
	"testing"

	"gangway/api"
	"gangway/bits"
)

// model is a set as the chapter's words say it, without words or shifts.
type model []bool

func (m model) next(i int, in bool) int {
	for at, is := range m {
		if at >= i && is == in {
			return at
		}
	}
	return -1
}

func (m model) numbers() []int {
	var l []int
	for i, is := range m {
		if is {
			l = append(l, i)
		}
	}
	return l
}

func (m model) gaps() []gap {
	var l []gap
	for i, is := range m {
		switch {
		case is:
		case i > 0 && !m[i-1]:
			l[len(l)-1].count++
		default:
			l = append(l, gap{i, 1})
		}
	}
	return l
}

func (m model) bytes() []byte {
	b := make([]byte, (len(m)+7)/8)
	for i, is := range m {
		if is {
			b[i/8] += byte(math.Pow(2, float64(i%8)))
		}
	}
	return b
}

// wantAs: the set answers all questions as the model does.
func wantAs(t *testing.T, s *bits.Set, m model) {
	t.Helper()
	if s.Bound() != len(m) || s.Count() != len(m.numbers()) || !slices.Equal(s.Bytes(), m.bytes()) {
		t.Fatalf("bound %d: %d, %d, %v", len(m), s.Bound(), s.Count(), s.Bytes())
	}
	for i := -2; i < len(m)+70; i++ {
		has := i >= 0 && i < len(m) && m[i]
		if s.Has(i) != has || s.Next(i) != m.next(i, true) || s.Free(i) != m.next(i, false) {
			t.Fatalf("bound %d at %d: %v, %d, %d", len(m), i, s.Has(i), s.Next(i), s.Free(i))
		}
	}
	for _, i := range []int{math.MinInt, -1 << 32, -65} {
		if s.Has(i) || s.Next(i) != m.next(0, true) || s.Free(i) != m.next(0, false) {
			t.Fatalf("bound %d at %d: %v, %d, %d", len(m), i, s.Has(i), s.Next(i), s.Free(i))
		}
	}
	for _, i := range []int{1 << 32, math.MaxInt - 63, math.MaxInt} {
		if s.Has(i) || s.Next(i) != -1 || s.Free(i) != -1 {
			t.Fatalf("bound %d at %d: %v, %d, %d", len(m), i, s.Has(i), s.Next(i), s.Free(i))
		}
	}
	if got := slices.Collect(s.All()); !slices.Equal(got, m.numbers()) {
		t.Fatalf("bound %d: All %v", len(m), got)
	}
	if got := gapsOf(s); !slices.Equal(got, m.gaps()) {
		t.Fatalf("bound %d: Gaps %v", len(m), got)
	}
	back, err := bits.Of(s.Bound(), s.Bytes())
	if err != api.OK || !bits.Same(s, back) || !bits.Same(s, s.Copy()) {
		t.Fatalf("bound %d: there and back: %d", len(m), err)
	}
}

// P2.2 to P2.6: sets of many bounds, thin and thick, as the model.
func TestAsModel(t *testing.T) {
	x := uint64(1)
	chance := func(below int) int {
		x = x*6364136223846793005 + 1442695040888963407
		return int(x >> 33 % uint64(below))
	}
	for _, n := range []int{0, 1, 2, 7, 8, 9, 63, 64, 65, 127, 128, 129, 191, 192, 193, 260} {
		for _, thick := range []int{0, 1, 20, 50, 80, 99, 100} {
			s, m := made(t, n), make(model, n)
			for i := range m {
				if chance(100) < thick {
					m[i] = true
					s.Put(i)
				}
			}
			wantAs(t, s, m)
			for range min(n, 5) {
				put, drop := chance(n), chance(n)
				if s.Put(put) != api.OK || s.Drop(drop) != api.OK {
					t.Fatal("a number below the bound is refused")
				}
				m[put] = true
				m[drop] = false
				wantAs(t, s, m)
			}
		}
	}
}

// P2.2 to P2.4: the greatest bound, with long rows of words that have nothing to find.
func TestGreatest(t *testing.T) {
	s := made(t, api.MaxBits, 65535)
	if s.Next(0) != 65535 || s.Free(65535) != -1 || s.Count() != 1 || s.Bytes()[8191] != 128 {
		t.Error(s.Next(0), s.Free(65535), s.Count())
	}
	if l := gapsOf(s); !slices.Equal(l, []gap{{0, 65535}}) {
		t.Error("Gaps:", l)
	}
	for i := range 65535 {
		s.Put(i)
	}
	if s.Count() != 65536 || s.Free(0) != -1 || len(gapsOf(s)) != 0 {
		t.Error(s.Count(), s.Free(0))
	}
	s.Drop(65535)
	if s.Free(0) != 65535 || s.Next(65535) != -1 || !slices.Equal(gapsOf(s), []gap{{65535, 1}}) {
		t.Error(s.Free(0), s.Next(65535))
	}
	if got := slices.Collect(s.All()); !slices.Equal(got, everyNumber(65535)) {
		t.Error("All has", len(got))
	}
}

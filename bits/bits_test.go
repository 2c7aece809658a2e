package bits_test

import (
	"math"
	"slices"
	"sync"
	"testing"

	"gangway/api"
	"gangway/bits"
)

// gap is a row of numbers that are not in a set.
type gap struct{ from, count int }

func made(t *testing.T, n int, numbers ...int) *bits.Set {
	t.Helper()
	s, err := bits.New(n)
	if err != api.OK || s == nil {
		t.Fatalf("New(%d): %v, %d", n, s, err)
	}
	for _, i := range numbers {
		if err := s.Put(i); err != api.OK {
			t.Fatalf("Put(%d) to the bound %d: %d", i, n, err)
		}
	}
	return s
}

func gapsOf(s *bits.Set) []gap {
	var l []gap
	for from, count := range s.Gaps() {
		l = append(l, gap{from, count})
	}
	return l
}

// wantNone: what is no set answers as the document says, whatever it is asked.
func wantNone(t *testing.T, what string, s *bits.Set) {
	t.Helper()
	for _, i := range []int{math.MinInt, -1, 0, 1, 64, math.MaxInt} {
		if p, d := s.Put(i), s.Drop(i); p != api.ErrNil || d != api.ErrNil {
			t.Errorf("%s: Put(%d) %d, Drop %d", what, i, p, d)
		}
		if s.Has(i) || s.Next(i) != -1 || s.Free(i) != -1 {
			t.Errorf("%s: at %d: %v, %d, %d", what, i, s.Has(i), s.Next(i), s.Free(i))
		}
	}
	if s.Bound() != 0 || s.Count() != 0 || len(s.Bytes()) != 0 || s.Copy() != nil {
		t.Errorf("%s: %d, %d, %v, %v", what, s.Bound(), s.Count(), s.Bytes(), s.Copy())
	}
	for range s.All() {
		t.Errorf("%s: All has a number", what)
	}
	for range s.Gaps() {
		t.Errorf("%s: Gaps has a row", what)
	}
}

// P2.1 to P2.4: the chapter's first example.
func TestFirstExample(t *testing.T) {
	s := made(t, 10, 3, 9)
	if a, b := s.Put(10), s.Put(-1); a != api.ErrArg || b != api.ErrArg {
		t.Error("Put of 10 and -1:", a, b)
	}
	got := []int{s.Count(), s.Next(0), s.Next(4), s.Next(10), s.Free(3), s.Free(9), s.Next(-5)}
	if want := []int{2, 3, 9, -1, 4, -1, 3}; !slices.Equal(got, want) {
		t.Error(got, want)
	}
	if !s.Has(3) || s.Has(10) {
		t.Error("Has of 3 and 10:", s.Has(3), s.Has(10))
	}
	if b := s.Bytes(); !slices.Equal(b, []byte{8, 2}) {
		t.Error("Bytes:", b)
	}
	if l := gapsOf(s); !slices.Equal(l, []gap{{0, 3}, {4, 5}}) {
		t.Error("Gaps:", l)
	}
}

// P2.1: the bounds that may be, and those beside them; the order of the errors.
func TestMake(t *testing.T) {
	for _, n := range []int{math.MinInt, -65536, -64, -8, -1, 65537, 65544, 1 << 32, math.MaxInt} {
		s, err := bits.New(n)
		if s != nil || err != api.ErrArg {
			t.Errorf("New(%d): %v, %d", n, s, err)
		}
		for _, b := range [][]byte{nil, {255}, make([]byte, 8192), make([]byte, 8193)} {
			if s, err := bits.Of(n, b); s != nil || err != api.ErrArg {
				t.Errorf("Of(%d, %d bytes): %v, %d", n, len(b), s, err)
			}
		}
	}
	for _, n := range []int{0, 1, 7, 8, 9, 63, 64, 65, 127, 128, 129, 65535, 65536} {
		s := made(t, n)
		if s.Bound() != n || s.Count() != 0 || s.Next(0) != -1 {
			t.Errorf("New(%d): %d, %d, %d", n, s.Bound(), s.Count(), s.Next(0))
		}
		if b := s.Bytes(); !slices.Equal(b, make([]byte, (n+7)/8)) {
			t.Errorf("New(%d): bytes %v", n, b)
		}
	}
}

// P2.1: the chapter's second example, and what else Of takes and refuses.
func TestOf(t *testing.T) {
	full := slices.Repeat([]byte{255}, 8192)
	tests := []struct {
		n     int
		b     []byte
		err   api.Errno
		count int
	}{
		{10, []byte{8, 2}, api.OK, 2},
		{10, []byte{8}, api.ErrLong, 0},
		{10, []byte{8, 2, 0}, api.ErrLong, 0},
		{10, []byte{8, 6, 0}, api.ErrLong, 0}, // the length goes ahead of the bits
		{10, []byte{8, 6}, api.ErrMore, 0},
		{10, []byte{0, 4}, api.ErrMore, 0},
		{10, []byte{0, 128}, api.ErrMore, 0},
		{10, []byte{255, 3}, api.OK, 10},
		{8, []byte{255}, api.OK, 8},
		{8, []byte{255, 0}, api.ErrLong, 0},
		{7, []byte{127}, api.OK, 7},
		{7, []byte{128}, api.ErrMore, 0},
		{1, []byte{1}, api.OK, 1},
		{1, []byte{2}, api.ErrMore, 0},
		{1, nil, api.ErrLong, 0},
		{0, nil, api.OK, 0},
		{0, []byte{}, api.OK, 0},
		{0, []byte{0}, api.ErrLong, 0},
		{-1, nil, api.ErrArg, 0},
		{65537, full, api.ErrArg, 0},
		{65536, full, api.OK, 65536},
		{65536, full[1:], api.ErrLong, 0},
		{65535, full, api.ErrMore, 0},
		{65529, full, api.ErrMore, 0},
		{65528, full[1:], api.OK, 65528},
	}
	for _, c := range tests {
		s, err := bits.Of(c.n, c.b)
		if err != c.err || (s != nil) != (c.err == api.OK) {
			t.Errorf("Of(%d, %d bytes): %v, %d, want %d", c.n, len(c.b), s, err, c.err)
			continue
		}
		if err == api.OK && (s.Bound() != c.n || s.Count() != c.count || !slices.Equal(s.Bytes(), c.b)) {
			t.Errorf("Of(%d, %d bytes): %d, %d", c.n, len(c.b), s.Bound(), s.Count())
		}
	}
	s, _ := bits.Of(10, []byte{8, 2})
	if !bits.Same(s, made(t, 10, 3, 9)) {
		t.Error("Of(10, 8 2) has other numbers than 3 and 9")
	}
	s, _ = bits.Of(8, []byte{255})
	if l := gapsOf(s); len(l) != 0 || s.Free(0) != -1 {
		t.Error("a full set has gaps", l)
	}
}

// P2.1: each bit from the bound on is seen by itself.
func TestOfEveryBit(t *testing.T) {
	for n := range 140 {
		for i := range (n + 7) / 8 * 8 {
			b := make([]byte, (n+7)/8)
			b[i/8] = 1 << (i % 8)
			s, err := bits.Of(n, b)
			if i >= n && (s != nil || err != api.ErrMore) {
				t.Errorf("bound %d, bit %d: %d", n, i, err)
			}
			if i < n && (err != api.OK || s.Count() != 1 || s.Next(0) != i || !bits.Same(s, made(t, n, i))) {
				t.Errorf("bound %d, bit %d: %d", n, i, err)
			}
		}
	}
}

// P2.3: the chapter's third example; what is outside is refused, and changes nothing.
func TestChange(t *testing.T) {
	s := made(t, 10, 3, 9, 3)
	if s.Count() != 2 {
		t.Error("a number that is put twice counts twice")
	}
	for range 2 {
		if err := s.Drop(3); err != api.OK || s.Count() != 1 || s.Has(3) || !s.Has(9) {
			t.Error("Drop(3):", err, s.Count())
		}
	}
	for _, n := range []int{0, 1, 10, 64, 65, 65536} {
		for _, s := range []*bits.Set{made(t, n), made(t, n, everyNumber(n)...)} {
			before := s.Copy()
			for _, i := range []int{math.MinInt, -64, -1, n, n + 1, n + 63, n + 64, 1 << 40, math.MaxInt} {
				if p, d := s.Put(i), s.Drop(i); p != api.ErrArg || d != api.ErrArg {
					t.Errorf("bound %d, %d: Put %d, Drop %d", n, i, p, d)
				}
				if s.Has(i) || !bits.Same(s, before) {
					t.Errorf("bound %d: %d has changed the set", n, i)
				}
			}
		}
	}
}

func everyNumber(n int) []int {
	l := make([]int, n)
	for i := range l {
		l[i] = i
	}
	return l
}

// P2.1 to P2.5, R4: what is no set.
func TestNone(t *testing.T) {
	s := made(t, 3, 1)
	for what, none := range map[string]*bits.Set{"nil": nil, "zero": {}} {
		wantNone(t, what, none)
		if bits.Same(none, none) || bits.Same(none, s) || bits.Same(s, none) || bits.Same(none, made(t, 0)) || bits.Same(made(t, 0), none) {
			t.Error(what, "is the same as something")
		}
		if none.All() == nil || none.Gaps() == nil {
			t.Error(what, "has a nil iterator")
		}
	}
	if bits.Same(nil, &bits.Set{}) || bits.Same(&bits.Set{}, nil) {
		t.Error("two that are no sets are the same")
	}
}

// P2.5: the bound and the numbers count, and how they came there does not.
func TestSame(t *testing.T) {
	a := made(t, 130, 5, 64, 129)
	b := made(t, 130, 129, 5, 7, 64)
	if bits.Same(a, b) || bits.Same(b, a) {
		t.Error("with a number more: the same")
	}
	b.Drop(7)
	if !bits.Same(a, b) || !bits.Same(b, a) || !bits.Same(a, a) {
		t.Error("with the same numbers: not the same")
	}
	for _, n := range []int{131, 136, 192, 193} { // of which some have as many words or bytes
		if o := made(t, n, 5, 64, 129); bits.Same(a, o) || bits.Same(o, a) {
			t.Error("the same with the bound", n)
		}
	}
	for i := range 130 {
		o := a.Copy()
		if o.Has(i) {
			o.Drop(i)
		} else {
			o.Put(i)
		}
		if bits.Same(a, o) || bits.Same(o, a) {
			t.Error("the same, but for", i)
		}
	}
	if !bits.Same(made(t, 0), made(t, 0)) || bits.Same(made(t, 0), made(t, 1)) {
		t.Error("sets of nothing")
	}
}

// P2.4, R4: both tell what was there when they were asked for, may be left early and gone through again.
func TestGoneThroughLater(t *testing.T) {
	s := made(t, 200, 0, 63, 64, 65, 128, 199)
	all, gaps := s.All(), s.Gaps()
	numbers := []int{0, 63, 64, 65, 128, 199}
	rows := []gap{{1, 62}, {66, 62}, {129, 70}}
	for round := range 3 {
		if got := slices.Collect(all); !slices.Equal(got, numbers) {
			t.Error("All, round", round, got)
		}
		var l []gap
		for from, count := range gaps {
			l = append(l, gap{from, count})
			if round == 1 {
				break
			}
		}
		if want := rows[:min(len(rows), 3-round%2*2)]; !slices.Equal(l, want) {
			t.Error("Gaps, round", round, l)
		}
		for i := range all {
			if i == 64 {
				break
			}
			if i > 64 {
				t.Error("All goes on behind its end")
			}
		}
		s.Put(1 + round)
		s.Drop(63 + round)
	}
}

// P2.4: what is changed while it is gone through does not show there.
func TestChangedWhileGoneThrough(t *testing.T) {
	s := made(t, 100, 10, 20, 30)
	var got []int
	for i := range s.All() {
		got = append(got, i)
		s.Put(i + 1)
		s.Drop(30)
	}
	if !slices.Equal(got, []int{10, 20, 30}) {
		t.Error("All:", got)
	}
	var l []gap
	for from, count := range s.Gaps() {
		l = append(l, gap{from, count})
		for i := range 100 {
			s.Put(i)
		}
	}
	if want := []gap{{0, 10}, {12, 8}, {22, 9}, {32, 68}}; !slices.Equal(l, want) {
		t.Error("Gaps:", l)
	}
}

// P2.6, R3, R5: a copy, what was handed in and what was answered share nothing with the set.
func TestOfItsOwn(t *testing.T) {
	room := []byte{8, 2, 77}
	s, _ := bits.Of(10, room[:2])
	c := s.Copy()
	if !bits.Same(s, c) || c.Bound() != 10 || c.Count() != 2 {
		t.Error("a copy is otherwise")
	}
	room[0] = 255
	out := s.Bytes()
	out[1] = 255
	_ = append(out[:1], 9)
	if !slices.Equal(s.Bytes(), []byte{8, 2}) || !slices.Equal(s.Bytes(), c.Bytes()) {
		t.Error("what a caller writes shows", s.Bytes())
	}
	room[0] = 8
	s.Put(0)
	c.Drop(9)
	cc := c.Copy()
	cc.Put(5)
	if !slices.Equal(s.Bytes(), []byte{9, 2}) || !slices.Equal(c.Bytes(), []byte{8, 0}) || !slices.Equal(cc.Bytes(), []byte{40, 0}) {
		t.Error("a copy knows of its set", s.Bytes(), c.Bytes(), cc.Bytes())
	}
	if !slices.Equal(room, []byte{8, 2, 77}) {
		t.Error("what was handed in is changed", room)
	}
}

// R7: calls on sets that share nothing may be made at one time.
func TestAtOneTime(t *testing.T) {
	first := made(t, 300, 7, 100)
	var wait sync.WaitGroup
	for k := range 8 {
		c := first.Copy()
		all := first.All()
		wait.Go(func() {
			for i := range 300 {
				c.Put((i*7 + k) % 300)
			}
			if c.Count() != 300 || !slices.Equal(slices.Collect(all), []int{7, 100}) {
				t.Error("a set at one time with others", c.Count())
			}
		})
	}
	wait.Wait()
}

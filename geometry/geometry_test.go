package geometry_test

import (
	"sync"
	"testing"

	"gangway/api"
	"gangway/geometry"
)

var (
	small = api.Shape{Seats: 12, Codes: 8, Group: 4}
	most  = api.Shape{Seats: 1024, Codes: 4096, Group: 64}
)

func shape(seats, codes, group int) api.Shape {
	return api.Shape{Seats: seats, Codes: codes, Group: group}
}

func need(t *testing.T, s api.Shape, size int) int {
	t.Helper()
	n, err := geometry.Need(s, size)
	if err != api.OK {
		t.Fatalf("Need(%v, %d): %d", s, size, err)
	}
	return n
}

func plan(t *testing.T, sectors, size int, s api.Shape) api.Layout {
	t.Helper()
	l, err := geometry.Plan(sectors, size, s)
	if err != api.OK {
		t.Fatalf("Plan(%d, %d, %v): %d", sectors, size, s, err)
	}
	return l
}

// P9.1: the chapter's first example; each number at its limit and one past it, by itself.
func TestCheck(t *testing.T) {
	for _, s := range []api.Shape{small, most, shape(1, 1, 1), shape(1024, 1, 1), shape(1, 4096, 1), shape(1, 1, 64)} {
		if err := geometry.Check(s); err != api.OK {
			t.Errorf("Check(%v): %d", s, err)
		}
	}
	for _, s := range []api.Shape{{}, shape(0, 8, 4), shape(1025, 8, 4), shape(12, 0, 4), shape(12, 4097, 4), shape(12, 8, 0), shape(12, 8, 65),
		shape(-12, 8, 4), shape(12, -8, 4), shape(12, 8, -4), shape(4096, 8, 4), shape(12, 8, 4096)} {
		if err := geometry.Check(s); err != api.ErrShape {
			t.Errorf("Check(%v): %d", s, err)
		}
		if n, err := geometry.Image(s); n != 0 || err != api.ErrShape {
			t.Errorf("Image(%v): %d, %d", s, n, err)
		}
	}
}

// P9.1: the chapter's second example; the lesser of seats and codes counts, whichever it is.
func TestImage(t *testing.T) {
	for s, want := range map[api.Shape]int{small: 132, shape(3, 8, 4): 62, most: 14356, shape(6, 4, 3): 76,
		shape(1, 1, 1): 34, shape(1, 4096, 1): 34, shape(1024, 1, 1): 34, shape(8, 8, 64): 132, shape(1024, 1023, 1): 14342} {
		if n, err := geometry.Image(s); n != want || err != api.OK {
			t.Errorf("Image(%v): %d, %d, want %d", s, n, err, want)
		}
	}
}

// P9.2: the chapter's third example, an image that fills its sectors to the last byte, and sizes that may not be.
func TestNeed(t *testing.T) {
	for _, x := range []struct {
		s          api.Shape
		size, want int
	}{
		{small, 64, 9}, {small, 128, 7}, {small, 256, 5}, {small, 4096, 5}, {most, 64, 453}, {most, 4096, 11}, {shape(6, 4, 3), 64, 7},
		{shape(18, 18, 1), 64, 13}, {shape(1, 1, 1), 64, 5},
		{shape(262, 262, 1), 64, 119}, {shape(262, 262, 1), 512, 19}, {shape(262, 262, 1), 1024, 11}, // 3688 bytes
		{shape(26, 26, 1), 128, 9}, {shape(26, 26, 1), 64, 15}, // 384 bytes: just 3 sectors, just 6
		{shape(27, 27, 1), 128, 11}, {shape(27, 27, 1), 64, 17}, // 14 more
	} {
		if n, err := geometry.Need(x.s, x.size); n != x.want || err != api.OK {
			t.Errorf("Need(%v, %d): %d, %d, want %d", x.s, x.size, n, err, x.want)
		}
	}
	for _, size := range []int{65, 32, 8192, 0, -64, 1, 63, 96, 192, 4095, 4097} {
		if n, err := geometry.Need(small, size); n != 0 || err != api.ErrArg {
			t.Errorf("Need in sectors of %d: %d, %d", size, n, err)
		}
	}
}

// P9.3: the chapter's fourth example and the document's second, the limits of a disk and one past each.
func TestPlan(t *testing.T) {
	if l := plan(t, 20, 64, small); l != (api.Layout{Size: 64, A: api.Span{From: 0, Count: 4}, B: api.Span{From: 4, Count: 4}, Log: api.Span{From: 8, Count: 12}}) {
		t.Errorf("20 sectors of 64 bytes: %v", l)
	}
	if l := plan(t, 9, 64, small); l != (api.Layout{Size: 64, A: api.Span{From: 0, Count: 4}, B: api.Span{From: 4, Count: 4}, Log: api.Span{From: 8, Count: 1}}) {
		t.Errorf("just as many as are needed: %v", l)
	}
	if l := plan(t, 20, 64, shape(6, 4, 3)); l != (api.Layout{Size: 64, A: api.Span{From: 0, Count: 3}, B: api.Span{From: 3, Count: 3}, Log: api.Span{From: 6, Count: 14}}) {
		t.Errorf("F's: %v", l)
	}
	for _, x := range []struct {
		sectors, size int
		want          api.Errno
	}{
		{8, 64, api.ErrSmall}, {1, 64, api.ErrSmall}, {4, 4096, api.ErrSmall}, {5, 4096, api.OK},
		{0, 64, api.ErrArg}, {-1, 64, api.ErrArg}, {65536, 64, api.OK}, {65537, 64, api.ErrArg},
		{65536, 1024, api.OK}, {65536, 2048, api.ErrArg}, {32768, 2048, api.OK}, {32769, 2048, api.ErrArg}, {16384, 4096, api.OK}, {16385, 4096, api.ErrArg},
		{20, 96, api.ErrArg}, {20, 32, api.ErrArg}, {20, 8192, api.ErrArg}, {20, 0, api.ErrArg}, {20, -64, api.ErrArg},
	} {
		l, err := geometry.Plan(x.sectors, x.size, small)
		if err != x.want || err != api.OK && l != (api.Layout{}) {
			t.Errorf("Plan(%d, %d): %v, %d, want %d", x.sectors, x.size, l, err, x.want)
		}
	}
}

// P9.2, P9.3: of several errors the first in the chapter's order is told.
func TestOrderOfErrors(t *testing.T) {
	if n, err := geometry.Need(api.Shape{}, 65); n != 0 || err != api.ErrShape {
		t.Errorf("Need: %d, %d", n, err)
	}
	if l, err := geometry.Plan(0, 65, api.Shape{}); l != (api.Layout{}) || err != api.ErrShape {
		t.Errorf("Plan of no shape on no disk: %v, %d", l, err)
	}
	if l, err := geometry.Plan(1, 64, shape(12, 8, 65)); l != (api.Layout{}) || err != api.ErrShape {
		t.Errorf("Plan of no shape on a small disk: %v, %d", l, err)
	}
	if l, err := geometry.Plan(1, 65, small); l != (api.Layout{}) || err != api.ErrArg {
		t.Errorf("Plan on a small disk that may not be: %v, %d", l, err)
	}
}

// P9.4: slots and log are all sectors, each with room for what it is for; one sector more goes to the log.
func TestPlanFollows(t *testing.T) {
	for _, s := range []api.Shape{small, most, shape(1, 1, 1), shape(26, 40, 9), shape(500, 27, 64)} {
		for _, size := range sizes {
			least := need(t, s, size)
			if l, err := geometry.Plan(least-1, size, s); l != (api.Layout{}) || err != api.ErrSmall {
				t.Errorf("one sector too few: %v, %d", l, err)
			}
			image, _ := geometry.Image(s)
			for sectors := least; sectors < least+5; sectors++ {
				l := plan(t, sectors, size, s)
				if l.A.From != 0 || l.B.From != l.A.Count || l.Log.From != l.B.From+l.B.Count || l.Log.From+l.Log.Count != sectors {
					t.Errorf("%v of %d sectors of %d: gaps, or one over the other: %v", s, sectors, size, l)
				}
				if (l.A.Count-1)*size < image || l.B.Count != l.A.Count || l.Log.Count*size < api.MaxFrame {
					t.Errorf("%v of %d sectors of %d: no room: %v", s, sectors, size, l)
				}
				more := l
				more.Log.Count++
				if sectors*size < 1<<26 && plan(t, sectors+1, size, s) != more {
					t.Errorf("%v of %d sectors of %d: one more changes more than the log", s, sectors, size)
				}
			}
		}
	}
}

// P9.4: more seats or more bookings need no fewer sectors, and Group plays no part.
func TestNeedFollows(t *testing.T) {
	for _, size := range sizes {
		for n := 1; n < 1024; n += 7 {
			s := shape(n, 300, 1)
			if need(t, shape(n+1, 300, 1), size) < need(t, s, size) {
				t.Errorf("one seat more than %d needs fewer sectors of %d", n, size)
			}
			if need(t, shape(300, n+1, 1), size) < need(t, shape(300, n, 1), size) {
				t.Errorf("one booking more than %d needs fewer sectors of %d", n, size)
			}
			if need(t, shape(n, 300, 64), size) != need(t, s, size) {
				t.Errorf("with %d seats Group plays a part", n)
			}
		}
	}
	for group := 1; group <= 64; group++ {
		if plan(t, 20, 64, shape(12, 8, group)) != plan(t, 20, 64, small) {
			t.Errorf("Group %d has a layout of its own", group)
		}
	}
}

// R6, R7: the same answers every time, and calls at one time do not disturb one another.
func TestAtOneTime(t *testing.T) {
	want := plan(t, 500, 64, most)
	var all sync.WaitGroup
	for range 8 {
		all.Go(func() {
			for range 100 {
				if l, err := geometry.Plan(500, 64, most); l != want || err != api.OK {
					t.Errorf("Plan: %v, %d", l, err)
				}
			}
		})
	}
	all.Wait()
}

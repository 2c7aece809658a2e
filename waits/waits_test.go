package waits_test

import (
	"math"
	"slices"
	"sync"
	"testing"

	"gangway/api"
	"gangway/waits"
)

// four are the parties of the chapter's examples.
func four() []api.Wait {
	return []api.Wait{{Who: 1, Size: 2, Tier: 0, Since: 5}, {Who: 2, Size: 4, Tier: 3, Since: 9}, {Who: 3, Size: 1, Tier: 0, Since: 5}, {Who: 4, Size: 1, Tier: 0, Since: 4}}
}

// made answers a list of the parties, joined in that order.
func made(t *testing.T, parties ...api.Wait) *waits.List {
	t.Helper()
	l := waits.New()
	for _, w := range parties {
		wantJoin(t, l, w, api.OK)
	}
	return l
}

func allOf(l *waits.List) []api.Wait {
	return slices.Collect(l.All())
}

func whos(l []api.Wait) []uint32 {
	var out []uint32
	for _, w := range l {
		out = append(out, w.Who)
	}
	return out
}

func sum(l []api.Wait) int {
	n := 0
	for _, w := range l {
		n += w.Size
	}
	return n
}

// wantOrder: these Whos wait, in that order.
func wantOrder(t *testing.T, l *waits.List, want ...uint32) {
	t.Helper()
	if got := whos(allOf(l)); !slices.Equal(got, want) || l.Len() != len(want) {
		t.Errorf("All: %v, Len: %d, want %v", got, l.Len(), want)
	}
}

func wantJoin(t *testing.T, l *waits.List, w api.Wait, want api.Errno) {
	t.Helper()
	if err := l.Join(w); err != want {
		t.Errorf("Join(%v): %d, want %d", w, err, want)
	}
}

func wantLeave(t *testing.T, l *waits.List, who uint32, want api.Errno) {
	t.Helper()
	if err := l.Leave(who); err != want {
		t.Errorf("Leave(%d): %d, want %d", who, err, want)
	}
}

func wantRaise(t *testing.T, l *waits.List, who uint32, tier int, want api.Errno) {
	t.Helper()
	if err := l.Raise(who, tier); err != want {
		t.Errorf("Raise(%d, %d): %d, want %d", who, tier, err, want)
	}
}

func wantGet(t *testing.T, l *waits.List, want api.Wait, place int) {
	t.Helper()
	if w, n, err := l.Get(want.Who); w != want || n != place || err != api.OK {
		t.Errorf("Get(%d): %v, %d, %d, want %v, %d", want.Who, w, n, err, want, place)
	}
}

func wantNoParty(t *testing.T, l *waits.List, who uint32, want api.Errno) {
	t.Helper()
	if w, n, err := l.Get(who); w != (api.Wait{}) || n != 0 || err != want {
		t.Errorf("Get(%d): %v, %d, %d, want %d", who, w, n, err, want)
	}
}

// wantServe: those parties take seats, in that order.
func wantServe(t *testing.T, l *waits.List, seats int, want ...uint32) {
	t.Helper()
	if got, err := l.Serve(seats); err != api.OK || !slices.Equal(whos(got), want) {
		t.Errorf("Serve(%d): %v, %d, want %v", seats, got, err, want)
	}
}

func wantNoServe(t *testing.T, l *waits.List, seats int, want api.Errno) {
	t.Helper()
	if got, err := l.Serve(seats); err != want || len(got) != 0 {
		t.Errorf("Serve(%d): %v, %d, want %d", seats, got, err, want)
	}
}

// wantSame: the list tells just what the model does.
func wantSame(t *testing.T, what string, l *waits.List, m model) {
	t.Helper()
	want := m.order()
	if got := allOf(l); !slices.Equal(got, want) || l.Len() != len(want) {
		t.Fatalf("%s: All: %v, Len: %d, want %v", what, got, l.Len(), want)
	}
	for place, w := range want {
		wantGet(t, l, w, place)
	}
}

// full answers a list to which no party may come any more, and its model: the Whos 1 to 1024.
func full(t *testing.T) (*waits.List, model) {
	t.Helper()
	next := numbers(7)
	l, m := waits.New(), model{}
	for who := range uint32(1024) {
		w := someParty(next, who+1)
		wantJoin(t, l, w, api.OK)
		m.join(w)
	}
	return l, m
}

// P28.1, P28.2, P28.5: the chapter's first example.
func TestJoinExample(t *testing.T) {
	l := made(t, four()...)
	wantOrder(t, l, 2, 4, 1, 3)
	wantGet(t, l, four()[0], 2)
	wantNoParty(t, l, 9, api.ErrUnknown)
	wantJoin(t, l, api.Wait{Who: 1, Size: 1}, api.ErrThere)
	wantJoin(t, l, api.Wait{Who: 0, Size: 1}, api.ErrArg)
	wantJoin(t, l, api.Wait{Who: 9, Size: 17}, api.ErrArg)
	wantJoin(t, l, api.Wait{Who: 9, Size: 1, Tier: 10}, api.ErrArg)
	wantJoin(t, l, api.Wait{Who: 9, Size: 1, Since: -1}, api.ErrArg)
	wantOrder(t, l, 2, 4, 1, 3)
}

// P28.3, P28.4, P28.6, P28.7: the chapter's second and third examples.
func TestServeExample(t *testing.T) {
	l := made(t, four()...)
	wantServe(t, l, 3, 4, 1)
	wantOrder(t, l, 2, 3)
	wantServe(t, l, 0)
	wantNoServe(t, l, -1, api.ErrArg)
	wantRaise(t, l, 3, 9, api.OK)
	wantOrder(t, l, 3, 2)
	wantRaise(t, l, 3, 10, api.ErrArg)
	wantRaise(t, l, 8, 1, api.ErrUnknown)
	wantLeave(t, l, 3, api.OK)
	wantLeave(t, l, 3, api.ErrUnknown)
	wantOrder(t, l, 2)
}

// P28.1, R5: a new list has no parties, and shares none with another one.
func TestNew(t *testing.T) {
	a, b := waits.New(), waits.New()
	if a == nil || b == nil {
		t.Fatal("New: nil")
	}
	wantOrder(t, a)
	wantServe(t, a, 0)
	wantServe(t, a, math.MaxInt)
	wantNoParty(t, a, 0, api.ErrUnknown)
	wantNoParty(t, a, 1, api.ErrUnknown)
	wantJoin(t, a, api.Wait{Who: 1, Size: 1}, api.OK)
	wantOrder(t, b)
	wantJoin(t, b, api.Wait{Who: 1, Size: 2, Tier: 3, Since: 4}, api.OK)
	wantJoin(t, b, api.Wait{Who: 2, Size: 2}, api.OK)
	wantGet(t, a, api.Wait{Who: 1, Size: 1}, 0)
	wantLeave(t, a, 1, api.OK)
	wantOrder(t, b, 1, 2)
}

// P28.1: Len goes up and down with the parties, and by nothing else.
func TestLen(t *testing.T) {
	l := waits.New()
	for i, step := range []struct {
		do   func()
		want int
	}{
		{func() { l.Join(api.Wait{Who: 5, Size: 2}) }, 1},
		{func() { l.Join(api.Wait{Who: 5, Size: 3}) }, 1},
		{func() { l.Join(api.Wait{Who: 6, Size: 0}) }, 1},
		{func() { l.Join(api.Wait{Who: 6, Size: 16}) }, 2},
		{func() { l.Raise(6, 4) }, 2},
		{func() { l.Serve(1) }, 2},
		{func() { l.Serve(15) }, 1},
		{func() { l.Leave(5) }, 1},
		{func() { l.Leave(6) }, 0},
		{func() { l.Serve(16) }, 0},
	} {
		step.do()
		if l.Len() != step.want {
			t.Errorf("step %d: Len: %d, want %d", i, l.Len(), step.want)
		}
	}
}

// P28.2: which parties may be: each field at both ends of its range, and what is one if it is cut off to fewer bits.
func TestMayBe(t *testing.T) {
	fine := api.Wait{Who: 7, Size: 2, Tier: 4, Since: 100}
	var l []api.Wait
	for _, who := range []uint32{0, 1, 255, 256, 65536, math.MaxInt32, 1 << 31, math.MaxUint32} {
		l = append(l, api.Wait{Who: who, Size: fine.Size, Tier: fine.Tier, Since: fine.Since})
	}
	for _, size := range []int{math.MinInt, math.MinInt + 2, math.MinInt32, -17, -2, -1, 0, 1, 2, 8, 15, 16, 17, 18, 32, 257, 65537, 1<<32 + 1, math.MaxInt} {
		l = append(l, api.Wait{Who: fine.Who, Size: size, Tier: fine.Tier, Since: fine.Since})
	}
	for _, tier := range []int{math.MinInt, math.MinInt32, -10, -9, -1, 0, 1, 8, 9, 10, 11, 256, 65536, 1 << 32, math.MaxInt} {
		l = append(l, api.Wait{Who: fine.Who, Size: fine.Size, Tier: tier, Since: fine.Since})
	}
	for _, since := range []int64{math.MinInt64, math.MinInt32, -1 << 40, -1, 0, 1, 1<<31 - 1, 1 << 31, 1 << 32, 1<<40 - 1, 1 << 40, 1<<40 + 1, 1 << 41, math.MaxInt64} {
		l = append(l, api.Wait{Who: fine.Who, Size: fine.Size, Tier: fine.Tier, Since: since})
	}
	count := 0
	for _, w := range l {
		list := waits.New()
		if !mayBe(w) {
			wantJoin(t, list, w, api.ErrArg)
			wantOrder(t, list)
			continue
		}
		count++
		wantJoin(t, list, w, api.OK)
		wantOrder(t, list, w.Who)
		wantGet(t, list, w, 0)
	}
	if count != 7+5+4+7 {
		t.Errorf("%d of %d parties may be", count, len(l))
	}
}

// P28.2: ErrArg is told ahead of ErrThere, and that ahead of ErrFull.
func TestOrderOfErrors(t *testing.T) {
	l, m := full(t)
	wantJoin(t, l, api.Wait{Who: 5, Size: 0}, api.ErrArg)
	wantJoin(t, l, api.Wait{Who: 5, Size: 1}, api.ErrThere)
	wantJoin(t, l, m[5], api.ErrThere)
	wantJoin(t, l, api.Wait{Who: 2000, Size: 1, Tier: -1}, api.ErrArg)
	wantJoin(t, l, api.Wait{Who: 0, Size: 1}, api.ErrArg)
	wantJoin(t, l, api.Wait{Who: 2000, Size: 1}, api.ErrFull)
	wantSame(t, "refused", l, m)
}

// P28.2: a party that is there is not changed by one of its Who that would join.
func TestThere(t *testing.T) {
	l := made(t, four()...)
	for _, w := range four() {
		wantJoin(t, l, w, api.ErrThere)
		wantJoin(t, l, api.Wait{Who: w.Who, Size: 16, Tier: 9, Since: 0}, api.ErrThere)
	}
	wantOrder(t, l, 2, 4, 1, 3)
	for place, i := range []int{1, 3, 0, 2} {
		wantGet(t, l, four()[i], place)
	}
}

// P28.2: MaxWaits parties wait, not one more; once one has gone, however it went, another one may come.
func TestFull(t *testing.T) {
	l, m := full(t)
	wantSame(t, "full", l, m)
	extra := api.Wait{Who: 5000, Size: 16, Tier: 0, Since: 1 << 40}
	wantJoin(t, l, extra, api.ErrFull)
	wantNoParty(t, l, 5000, api.ErrUnknown)
	wantRaise(t, l, 5000, 1, api.ErrUnknown)
	wantRaise(t, l, 9, 9, api.OK)
	wantJoin(t, l, extra, api.ErrFull)
	wantServe(t, l, 0)
	wantJoin(t, l, extra, api.ErrFull)
	wantLeave(t, l, 9, api.OK)
	wantJoin(t, l, extra, api.OK)
	wantGet(t, l, extra, 1023)
	extra.Who++
	wantJoin(t, l, extra, api.ErrFull)
	if got, err := l.Serve(16); err != api.OK || len(got) == 0 || l.Len() != 1024-len(got) {
		t.Errorf("Serve(16): %v, %d, Len: %d", got, err, l.Len())
	}
	wantJoin(t, l, extra, api.OK)
}

// P28.2, P28.3, P28.7: a party that has gone is told no more, and may come again: as what it is then.
func TestAgain(t *testing.T) {
	l := made(t, four()...)
	wantLeave(t, l, 2, api.OK)
	wantNoParty(t, l, 2, api.ErrUnknown)
	wantRaise(t, l, 2, 9, api.ErrUnknown)
	again := api.Wait{Who: 2, Size: 1, Tier: 0, Since: 5}
	wantJoin(t, l, again, api.OK)
	wantOrder(t, l, 4, 1, 2, 3)
	wantGet(t, l, again, 2)
	wantServe(t, l, 1, 4)
	wantNoParty(t, l, 4, api.ErrUnknown)
	wantLeave(t, l, 4, api.ErrUnknown)
	wantRaise(t, l, 4, 1, api.ErrUnknown)
	wantJoin(t, l, api.Wait{Who: 4, Size: 3, Tier: 1, Since: 50}, api.OK)
	wantJoin(t, l, api.Wait{Who: 4, Size: 3, Tier: 1, Since: 50}, api.ErrThere)
	wantOrder(t, l, 4, 1, 2, 3)
	wantServe(t, l, 7, 4, 1, 2, 3)
	wantOrder(t, l)
	wantJoin(t, l, four()[0], api.OK)
	wantOrder(t, l, 1)
}

// P28.3: just the one of that Who goes, from each place of the order.
func TestLeave(t *testing.T) {
	for who := range uint32(6) {
		l, m := made(t, four()...), model{}
		for _, w := range four() {
			m.join(w)
		}
		wantLeave(t, l, who, m.leave(who))
		wantSame(t, "left", l, m)
		wantLeave(t, l, who, api.ErrUnknown)
		wantSame(t, "left again", l, m)
	}
	wantLeave(t, waits.New(), math.MaxUint32, api.ErrUnknown)
}

// P28.4: the tier is what is told, be it greater, the same or less; all else of the party stays.
func TestRaise(t *testing.T) {
	l := made(t, four()...)
	for _, tier := range []int{0, 9, 9, 3, 0, 1, 3, 4} {
		wantRaise(t, l, 1, tier, api.OK)
		if w, _, err := l.Get(1); w != (api.Wait{Who: 1, Size: 2, Tier: tier, Since: 5}) || err != api.OK {
			t.Errorf("Get(1) behind the tier %d: %v, %d", tier, w, err)
		}
	}
	wantOrder(t, l, 1, 2, 4, 3)
	wantRaise(t, l, 1, 3, api.OK)
	wantOrder(t, l, 1, 2, 4, 3) // it has waited longer than the other one of its tier
	wantRaise(t, l, 2, 0, api.OK)
	wantOrder(t, l, 1, 4, 3, 2)
	wantRaise(t, l, 1, 0, api.OK)
	wantOrder(t, l, 4, 1, 3, 2)
	wantServe(t, l, 3, 4, 1)
}

// P28.4: the tiers that may be, told ahead of whether the party is there; a refusal changes nothing.
func TestRaiseRefused(t *testing.T) {
	l := made(t, four()...)
	for _, tier := range []int{math.MinInt, math.MinInt32, -9, -1, 10, 11, 256, 265, 65536, 1 << 32, math.MaxInt} {
		for _, who := range []uint32{0, 1, 2, 8, math.MaxUint32} {
			wantRaise(t, l, who, tier, api.ErrArg)
		}
	}
	for tier := range 10 {
		for _, who := range []uint32{0, 5, 8, 257, math.MaxUint32} {
			wantRaise(t, l, who, tier, api.ErrUnknown)
		}
	}
	wantOrder(t, l, 2, 4, 1, 3)
	for place, i := range []int{1, 3, 0, 2} {
		wantGet(t, l, four()[i], place)
	}
}

// P28.5, P28.6, P28.8: the order at its edges, in whichever order the parties come: a greater tier counts for more
// than any Since, that for more than any Who; none is held against another one by fewer bits.
func TestOrder(t *testing.T) {
	for _, want := range [][]api.Wait{
		{{Who: math.MaxUint32, Size: 16, Tier: 9, Since: 1 << 40}, {Who: 1, Size: 1, Tier: 8, Since: 0}, {Who: 2, Size: 1, Tier: 8, Since: 0}},
		{{Who: math.MaxUint32, Size: 16, Tier: 0, Since: 0}, {Who: 1, Size: 1, Tier: 0, Since: 1}, {Who: 1 << 31, Size: 1, Tier: 0, Since: 1}},
		{{Who: 4, Size: 3, Tier: 2, Since: 1}, {Who: 3, Size: 3, Tier: 2, Since: 1 << 31}, {Who: 2, Size: 3, Tier: 2, Since: 1 << 32}, {Who: 1, Size: 3, Tier: 2, Since: 1 << 40}},
		{{Who: 1, Size: 4, Tier: 5, Since: 6}, {Who: math.MaxInt32, Size: 3, Tier: 5, Since: 6}, {Who: 1 << 31, Size: 2, Tier: 5, Since: 6}, {Who: math.MaxUint32, Size: 1, Tier: 5, Since: 6}},
		{{Who: 5, Size: 1, Tier: 9, Since: 4}, {Who: 4, Size: 1, Tier: 7, Since: 3}, {Who: 3, Size: 1, Tier: 5, Since: 2}, {Who: 2, Size: 1, Tier: 3, Since: 1}, {Who: 1, Size: 1, Tier: 1, Since: 0}},
	} {
		for _, come := range orders(want) {
			l := made(t, come...)
			wantOrder(t, l, whos(want)...)
			for place, w := range want {
				wantGet(t, l, w, place)
			}
			wantServe(t, l, sum(want), whos(want)...)
		}
	}
}

// P28.6, R4: what waits when All is called; it may be gone through again, left early, and begun within itself.
func TestAll(t *testing.T) {
	l := made(t, four()...)
	then := l.All()
	want := allOf(l)
	var seen []uint32
	for w := range then {
		seen = append(seen, w.Who)
		l.Leave(w.Who)
		l.Join(api.Wait{Who: w.Who + 10, Size: 1, Tier: 9})
		l.Raise(3, 9)
		for range then {
			break
		}
	}
	if !slices.Equal(seen, []uint32{2, 4, 1, 3}) {
		t.Errorf("All, with changes on the way: %v", seen)
	}
	wantOrder(t, l, 11, 12, 13, 14)
	l.Serve(2)
	wantOrder(t, l, 13, 14)
	for range 3 {
		count := 0
		for w := range then {
			if w != want[count] {
				t.Errorf("All, place %d: %v, want %v", count, w, want[count])
			}
			count++
			if count == 2 {
				break
			}
		}
		if got := slices.Collect(then); !slices.Equal(got, want) {
			t.Errorf("All, again: %v, want %v", got, want)
		}
	}
	wantOrder(t, l, 13, 14)
}

// P28.7: all seats and one fewer, none, more than all; one that is too large stays, and those behind it are asked.
func TestServe(t *testing.T) {
	a, b, c := api.Wait{Who: 1, Size: 5, Tier: 2}, api.Wait{Who: 2, Size: 3, Tier: 1}, api.Wait{Who: 3, Size: 2}
	for seats, want := range [][]uint32{0: nil, 1: nil, 2: {3}, 3: {2}, 4: {2}, 5: {1}, 6: {1}, 7: {1, 3}, 8: {1, 2}, 9: {1, 2}, 10: {1, 2, 3}, 11: {1, 2, 3}} {
		l := made(t, c, a, b)
		wantServe(t, l, seats, want...)
		var stay []uint32
		for _, who := range []uint32{1, 2, 3} {
			if !slices.Contains(want, who) {
				stay = append(stay, who)
			}
		}
		wantOrder(t, l, stay...)
		wantServe(t, l, math.MaxInt, stay...)
		wantOrder(t, l)
	}
}

// P28.7: fewer than no seats are refused, and nothing changes; none are fine.
func TestServeRefused(t *testing.T) {
	l := made(t, four()...)
	for _, seats := range []int{-1, -2, -4, -16, math.MinInt32, -1 << 32, math.MinInt + 1, math.MinInt} {
		wantNoServe(t, l, seats, api.ErrArg)
		wantNoServe(t, waits.New(), seats, api.ErrArg)
	}
	wantServe(t, l, 0)
	wantOrder(t, l, 2, 4, 1, 3)
	for place, i := range []int{1, 3, 0, 2} {
		wantGet(t, l, four()[i], place)
	}
}

// P28.7: those that stay keep their order and their fields, are found, and may be raised, served and go.
func TestWhoStays(t *testing.T) {
	next := numbers(11)
	l, m := waits.New(), model{}
	for who := range uint32(120) {
		w := someParty(next, who+1)
		wantJoin(t, l, w, m.join(w))
	}
	for m.order() != nil {
		seats := next(20)
		want, _ := m.serve(seats)
		wantServe(t, l, seats, whos(want)...)
		wantSame(t, "served", l, m)
		if stay := m.order(); len(stay) > 0 {
			who, tier := stay[next(len(stay))].Who, next(10)
			wantRaise(t, l, who, tier, m.raise(who, tier))
			who = stay[next(len(stay))].Who
			wantLeave(t, l, who, m.leave(who))
		}
	}
	wantOrder(t, l)
}

// P28.7: what is told of the parties that are taken is all of each, in their order.
func TestWhatServeTells(t *testing.T) {
	l := made(t, four()...)
	wantRaise(t, l, 3, 1, api.OK)
	want := []api.Wait{{Who: 3, Size: 1, Tier: 1, Since: 5}, {Who: 4, Size: 1, Since: 4}}
	if got, err := l.Serve(2); err != api.OK || !slices.Equal(got, want) {
		t.Errorf("Serve(2): %v, %d, want %v", got, err, want)
	}
}

// P28.7, P28.8: all lists of up to four parties of a few sizes, two tiers and two Sinces, all seats.
func TestAllSmallLists(t *testing.T) {
	split := 0
	for count := range 5 {
		for word := range 1 << (4 * min(count, 3)) {
			m := model{}
			for i := range count { // of four, which would be many, the fourth one is always the same
				bits := word >> (4 * i)
				w := api.Wait{Who: uint32(9 - i), Size: 1 + bits&3, Tier: bits >> 2 & 1, Since: int64(bits >> 3 & 1)}
				m.join(w)
			}
			row := m.order()
			for seats := range sum(row) + 2 {
				l := waits.New()
				for who := range uint32(10) {
					if w, ok := m[who]; ok {
						wantJoin(t, l, w, api.OK)
					}
				}
				lookAtServe(t, l, row, seats)
				if isSplit(row, seats) {
					split++
				}
			}
		}
	}
	if split < 1000 {
		t.Errorf("only %d services take others in two steps", split)
	}
}

// lookAtServe holds Serve against the model and against what follows.
func lookAtServe(t *testing.T, l *waits.List, row []api.Wait, seats int) {
	t.Helper()
	want := served(row, seats)
	got, err := l.Serve(seats)
	if err != api.OK || !slices.Equal(got, want) {
		t.Errorf("Serve(%d) of %v: %v, %d, want %v", seats, row, got, err, want)
	}
	if sum(got) > seats {
		t.Errorf("Serve(%d) of %v: %v, which are %d", seats, row, got, sum(got))
	}
	left := seats
	var stay []api.Wait
	for _, w := range row {
		if slices.Contains(got, w) {
			left -= w.Size
			continue
		}
		stay = append(stay, w)
		if w.Size <= left {
			t.Errorf("Serve(%d) of %v: %v, though %v would have fitted", seats, row, got, w)
		}
	}
	if rest := allOf(l); !slices.Equal(rest, stay) {
		t.Errorf("Serve(%d) of %v: %v stay, want %v", seats, row, rest, stay)
	}
}

// isSplit tells whether the seats, handed out in two parts, would go to others than at once.
func isSplit(row []api.Wait, seats int) bool {
	first := served(row, seats/2)
	rest := slices.DeleteFunc(slices.Clone(row), func(w api.Wait) bool { return slices.Contains(first, w) })
	both := append(first, served(rest, seats-seats/2)...)
	return len(both) != len(served(row, seats)) || slices.ContainsFunc(served(row, seats), func(w api.Wait) bool { return !slices.Contains(both, w) })
}

// P28.8: Serve with fewer seats and then with the others need not take the same.
func TestServeInParts(t *testing.T) {
	row := []api.Wait{{Who: 1, Size: 4, Tier: 1}, {Who: 2, Size: 2}, {Who: 3, Size: 2, Since: 1}}
	atOnce := made(t, row...)
	wantServe(t, atOnce, 4, 1)
	inParts := made(t, row...)
	wantServe(t, inParts, 2, 2)
	wantServe(t, inParts, 2, 3)
	wantOrder(t, inParts, 1)
}

// P28.1 to P28.8: any calls, one behind the other, held against the model.
func TestSomeCalls(t *testing.T) {
	tally := map[api.Errno]int{}
	taken, refusedServe := 0, 0
	for seed := range 60 {
		next := numbers(uint64(seed))
		l, m := waits.New(), model{}
		for range 200 {
			var err api.Errno
			who := uint32(next(30))
			switch next(8) {
			case 0:
				err = m.leave(who)
				wantLeave(t, l, who, err)
			case 1:
				tier := next(12) - 1
				err = m.raise(who, tier)
				wantRaise(t, l, who, tier, err)
			case 2:
				seats := next(30) - 2
				var want []api.Wait
				if want, err = m.serve(seats); err != api.OK {
					refusedServe++
					wantNoServe(t, l, seats, err)
					break
				}
				taken += len(want)
				wantServe(t, l, seats, whos(want)...)
			case 3:
				var w api.Wait
				var place int
				if w, place, err = m.get(who); err != api.OK {
					wantNoParty(t, l, who, err)
					break
				}
				wantGet(t, l, w, place)
			default:
				w := someParty(next, who)
				w.Size += next(2)
				err = m.join(w)
				wantJoin(t, l, w, err)
			}
			tally[err]++
			wantSame(t, "some calls", l, m)
		}
	}
	if min(tally[api.OK], tally[api.ErrArg], tally[api.ErrThere], tally[api.ErrUnknown], taken) < 500 || refusedServe < 50 {
		t.Errorf("too few calls of a kind: %v, %d taken, %d services refused", tally, taken, refusedServe)
	}
}

// P28.8: the order, and who is served, hang on the parties alone, not on how they came, nor on who went ahead of them.
func TestHowTheyCame(t *testing.T) {
	next := numbers(21)
	for range 200 {
		m, a, b := model{}, waits.New(), waits.New()
		for who := range uint32(20) {
			m.join(someParty(next, who+1))
		}
		for _, w := range m.order() {
			wantJoin(t, a, w, api.OK)
		}
		for who := range uint32(20) { // by Whos, with another tier, and others who go
			w := m[who+1]
			tier := w.Tier
			w.Tier = next(10)
			wantJoin(t, b, w, api.OK)
			other := someParty(next, 100+who)
			wantJoin(t, b, other, api.OK)
			wantRaise(t, b, w.Who, tier, api.OK)
			if next(2) == 0 {
				wantLeave(t, b, other.Who, api.OK)
			}
		}
		for who := range uint32(20) {
			b.Leave(100 + who)
		}
		wantSame(t, "in their order", a, m)
		wantSame(t, "by detours", b, m)
		seats := next(170)
		want, _ := m.serve(seats)
		wantServe(t, a, seats, whos(want)...)
		wantServe(t, b, seats, whos(want)...)
	}
}

// wantNone: the list is none, for all calls and all arguments.
func wantNone(t *testing.T, what string, l *waits.List) {
	t.Helper()
	for _, w := range []api.Wait{{}, {Who: 1, Size: 1}, {Who: 2, Size: 17}} {
		wantJoin(t, l, w, api.ErrNil)
	}
	for _, who := range []uint32{0, 1, 2, math.MaxUint32} {
		wantLeave(t, l, who, api.ErrNil)
		wantRaise(t, l, who, 1, api.ErrNil)
		wantRaise(t, l, who, 10, api.ErrNil)
		wantNoParty(t, l, who, api.ErrNil)
	}
	for _, seats := range []int{math.MinInt, -1, 0, 1, math.MaxInt} {
		wantNoServe(t, l, seats, api.ErrNil)
	}
	if l.All() == nil {
		t.Fatalf("%s: All: nil", what)
	}
	wantOrder(t, l)
}

// P28.2 to P28.7, R4: a list that is nil, that no call made, or that was copied by its value.
func TestNoList(t *testing.T) {
	wantNone(t, "nil", nil)
	wantNone(t, "the zero value", new(waits.List))
	l := made(t, four()...)
	copied := *l
	wantNone(t, "copied", &copied)
	wantOrder(t, l, 2, 4, 1, 3)
}

// R3, R6: an answer is new memory: what is written there, or behind its end, shows in no other answer.
func TestAnswers(t *testing.T) {
	l := made(t, four()...)
	m := model{}
	for _, w := range four() {
		m.join(w)
	}
	want, _ := m.serve(3)
	got, _ := l.Serve(3)
	_ = append(got[:0:cap(got)], slices.Repeat([]api.Wait{{Who: 77, Size: 7}}, cap(got))...)
	wantSame(t, "written over", l, m)
	wantJoin(t, l, want[0], api.OK)
	wantJoin(t, l, want[1], api.OK)
	again, _ := l.Serve(3)
	if !slices.Equal(again, want) {
		t.Errorf("Serve(3), again: %v, want %v", again, want)
	}
	_, _ = l.Serve(5)
	if !slices.Equal(again, want) {
		t.Errorf("Serve(3), behind another one: %v, want %v", again, want)
	}
}

// R7: calls on several lists may be made at one time.
func TestAtOneTime(t *testing.T) {
	var all sync.WaitGroup
	for seed := range 8 {
		all.Go(func() {
			next := numbers(uint64(seed))
			l, m := waits.New(), model{}
			for range 300 {
				w := someParty(next, uint32(1+next(40)))
				wantJoin(t, l, w, m.join(w))
				if next(5) == 0 {
					seats := next(30)
					want, _ := m.serve(seats)
					wantServe(t, l, seats, whos(want)...)
				}
			}
			if got, want := allOf(l), m.order(); !slices.Equal(got, want) {
				t.Errorf("All: %v, want %v", got, want)
			}
		})
	}
	all.Wait()
}

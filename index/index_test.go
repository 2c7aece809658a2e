package index_test

import (
	"math"
	"slices"
	"sync"
	"testing"

	"gangway/api"
	"gangway/index"
	"gangway/mix"
)

// pair is an id and its number.
type pair struct {
	id    uint32
	value int
}

// made answers an index of most items with those that are told.
func made(t *testing.T, most int, items ...pair) *index.Index {
	t.Helper()
	x, err := index.New(most)
	if err != api.OK {
		t.Fatalf("New(%d): %d", most, err)
	}
	for _, p := range items {
		wantPut(t, x, p.id, p.value, api.OK)
	}
	return x
}

// wantPut: Put answers that, and looks at slots.
func wantPut(t *testing.T, x *index.Index, id uint32, v int, want api.Errno) {
	t.Helper()
	if err := x.Put(id, v); err != want {
		t.Fatalf("Put(%d, %d): %d, want %d", id, v, err, want)
	}
	wantSteps(t, "Put", x)
}

// wantSteps: at least one slot was looked at, and at most all.
func wantSteps(t *testing.T, what string, x *index.Index) {
	t.Helper()
	if n := x.Steps(); n < 1 || n > x.Slots() {
		t.Fatalf("%s looked at %d slots of %d", what, n, x.Slots())
	}
}

// wantNumber: Get tells that number.
func wantNumber(t *testing.T, x *index.Index, id uint32, want int) {
	t.Helper()
	if v, ok := x.Get(id); v != want || !ok {
		t.Fatalf("Get(%d): %d, %v, want %d", id, v, ok, want)
	}
	wantSteps(t, "Get", x)
}

// wantNoId: there is no item of that id.
func wantNoId(t *testing.T, x *index.Index, id uint32) {
	t.Helper()
	if v, ok := x.Get(id); v != 0 || ok {
		t.Fatalf("Get(%d): %d, %v", id, v, ok)
	}
	wantSteps(t, "Get", x)
	if x.Set(id, 9) {
		t.Fatalf("Set(%d)", id)
	}
	wantSteps(t, "Set", x)
	if x.Drop(id) {
		t.Fatalf("Drop(%d)", id)
	}
	wantSteps(t, "Drop", x)
}

func allOf(x *index.Index) []pair {
	var l []pair
	for id, v := range x.All() {
		l = append(l, pair{id, v})
	}
	return l
}

// wantItems: just those items are there, as they are told, by rising ids.
func wantItems(t *testing.T, what string, x *index.Index, want ...pair) {
	t.Helper()
	if l := allOf(x); !slices.Equal(l, want) || x.Len() != len(want) {
		t.Fatalf("%s: %d items, All: %v, want %v", what, x.Len(), l, want)
	}
	for _, p := range want {
		wantNumber(t, x, p.id, p.value)
	}
}

// idsAt answers n ids whose search begins on that slot of so many.
func idsAt(home, slots, n int) []uint32 {
	var l []uint32
	for id := uint32(1); len(l) < n; id++ {
		if mix.Hash(uint64(id))%uint64(slots) == uint64(home) {
			l = append(l, id)
		}
	}
	return l
}

// P13.1 to P13.5: the chapter's examples.
func TestExamples(t *testing.T) {
	x := made(t, 3)
	if x.Most() != 3 || x.Slots() != 8 || x.Steps() != 0 {
		t.Fatalf("Most %d, Slots %d, Steps %d", x.Most(), x.Slots(), x.Steps())
	}
	wantPut(t, x, 7, 70, api.OK)
	wantPut(t, x, 7, 1, api.ErrThere)
	wantPut(t, x, 4294967295, -1, api.OK)
	wantPut(t, x, 0, 5, api.OK)
	wantPut(t, x, 8, 1, api.ErrFull)
	wantPut(t, x, 7, 1, api.ErrThere)
	wantNumber(t, x, 7, 70)
	if !x.Set(7, 71) || x.Set(9, 1) {
		t.Error("Set")
	}
	wantItems(t, "three", x, pair{0, 5}, pair{7, 71}, pair{4294967295, -1})
	if !x.Drop(0) || x.Drop(0) || x.Len() != 2 {
		t.Error("Drop")
	}
	wantPut(t, x, 8, 1, api.OK)
	wantItems(t, "at the end", x, pair{7, 71}, pair{8, 1}, pair{4294967295, -1})
}

// P13.1: every number from 1 to MaxCodes, with the least power of two not below twice that.
func TestNew(t *testing.T) {
	for most := 1; most <= api.MaxCodes; most++ {
		x := made(t, most)
		n := x.Slots()
		if x.Most() != most || x.Len() != 0 || x.Steps() != 0 {
			t.Fatalf("New(%d): Most %d, Len %d, Steps %d", most, x.Most(), x.Len(), x.Steps())
		}
		if n&(n-1) != 0 || n < 2*most || n/2 >= 2*most {
			t.Fatalf("New(%d): Slots %d", most, n)
		}
	}
	for most, slots := range map[int]int{1: 2, 2: 4, 3: 8, 4: 8, 5: 16, 2048: 4096, 2049: 8192, 4096: 8192} {
		if x := made(t, most); x.Slots() != slots {
			t.Errorf("New(%d): Slots %d, want %d", most, x.Slots(), slots)
		}
	}
	wantItems(t, "new", made(t, 7))
}

// P13.1: numbers that may not be.
func TestNewRefused(t *testing.T) {
	for _, most := range []int{0, -1, api.MaxCodes + 1, 2 * api.MaxCodes, math.MinInt, math.MaxInt} {
		if x, err := index.New(most); x != nil || err != api.ErrArg {
			t.Errorf("New(%d): %v, %d", most, x, err)
		}
	}
}

// P13.2: an id that is there is told ahead of an index that is full; a Put that is refused changes nothing.
func TestPutRefused(t *testing.T) {
	there := []pair{{1, 10}, {2, 20}}
	x := made(t, 3, there...)
	wantPut(t, x, 2, 21, api.ErrThere)
	wantItems(t, "there", x, there...)
	wantPut(t, x, 3, 30, api.OK)
	there = append(there, pair{3, 30})
	for range 3 {
		wantPut(t, x, 4, 40, api.ErrFull)
		wantPut(t, x, 0, 40, api.ErrFull)
		wantPut(t, x, 3, 31, api.ErrThere)
		wantItems(t, "full", x, there...)
		wantNoId(t, x, 4)
	}
	x.Drop(2)
	wantPut(t, x, 4, 40, api.OK)
	wantPut(t, x, 2, 20, api.ErrFull)
	wantItems(t, "full again", x, pair{1, 10}, pair{3, 30}, pair{4, 40})
}

// P13.2: as many items as may be, for each most, and not one more.
func TestFull(t *testing.T) {
	for _, most := range []int{1, 2, 3, 4, 5, 63, 64, 65, api.MaxCodes - 1, api.MaxCodes} {
		x := made(t, most)
		var want []pair
		for k := range most {
			p := pair{uint32(k) * 3, k - 2}
			want = append(want, p)
			wantPut(t, x, p.id, p.value, api.OK)
		}
		wantPut(t, x, 1, 1, api.ErrFull)
		wantItems(t, "full", x, want...)
		for _, p := range want {
			if !x.Drop(p.id) {
				t.Fatalf("Drop(%d)", p.id)
			}
			wantSteps(t, "Drop", x)
		}
		wantItems(t, "all dropped", x)
	}
}

// P13.3: the least and greatest ids and numbers; a number of 0 is one, too.
func TestEdges(t *testing.T) {
	items := []pair{{0, math.MaxInt}, {1, 0}, {1 << 31, -1}, {math.MaxUint32, math.MinInt}}
	x := made(t, 9, items...)
	wantItems(t, "put", x, items...)
	for k := range items {
		items[k].value = -items[k].value + k
		if !x.Set(items[k].id, items[k].value) {
			t.Errorf("Set(%d)", items[k].id)
		}
		wantSteps(t, "Set", x)
	}
	wantItems(t, "set", x, items...)
	for _, id := range []uint32{2, 1<<31 - 1, 1<<31 + 1, math.MaxUint32 - 1} {
		wantNoId(t, x, id)
	}
	wantItems(t, "what is not there", x, items...)
	for len(items) > 0 {
		if !x.Drop(items[0].id) {
			t.Errorf("Drop(%d)", items[0].id)
		}
		wantNoId(t, x, items[0].id)
		items = items[1:]
		wantItems(t, "dropped", x, items...)
	}
	wantNoId(t, x, 0) // also no free slot is taken for the id 0
}

// P13.4, R4: All tells what was there when it was called; it may be left early and gone through again,
// and the index may be changed in its midst.
func TestAll(t *testing.T) {
	want := []pair{{3, 30}, {40, 4}, {500, 5}, {70000, 7}}
	x := made(t, 8, want[2], want[0], want[3], want[1])
	then := x.All()
	gone := func(most int) []pair {
		var l []pair
		for id, v := range then {
			if len(l) == most {
				break
			}
			l = append(l, pair{id, v})
			x.Drop(id)
			x.Put(id+1, v)
			x.Set(want[3].id, 1)
		}
		return l
	}
	for _, most := range []int{0, 1, 3, 4, 9, 4} {
		if l := gone(most); !slices.Equal(l, want[:min(most, 4)]) {
			t.Errorf("%d of All: %v", most, l)
		}
	}
	wantItems(t, "behind All", x, pair{4, 30}, pair{41, 4}, pair{501, 5}, pair{70001, 7})
}

// P13.5: only Put, Set, Get and Drop look at slots; what else is asked leaves what they told.
func TestSteps(t *testing.T) {
	x := made(t, 4)
	ask := func() {
		x.Most()
		x.Len()
		x.Slots()
		allOf(x)
	}
	ask()
	if x.Steps() != 0 {
		t.Errorf("Steps ahead of all: %d", x.Steps())
	}
	ids := idsAt(7, 8, 4)
	for _, id := range ids {
		wantPut(t, x, id, 1, api.OK)
		last := x.Steps()
		ask()
		if x.Steps() != last {
			t.Errorf("Steps: %d, then %d", last, x.Steps())
		}
	}
	wantNoId(t, x, idsAt(7, 8, 5)[4])
	wantPut(t, x, idsAt(7, 8, 5)[4], 1, api.ErrFull)
}

// Slots are searched one by one from where the hash tells: of k items whose search begins on one slot some
// item is found at the k-th slot or behind it; one that is alone is found at once.
func TestSearchGoesOneByOne(t *testing.T) {
	for home := range 16 {
		ids := idsAt(home, 16, 8)
		x := made(t, 8)
		for k, id := range ids {
			wantPut(t, x, id, k, api.OK)
			far := 0
			for j, other := range ids[:k+1] {
				wantNumber(t, x, other, j)
				far = max(far, x.Steps())
			}
			if far != k+1 {
				t.Errorf("%d items from slot %d on: found within %d steps", k+1, home, far)
			}
		}
	}
}

// What is dropped leaves nothing behind at which a later search looks.
func TestDroppedLeavesNothing(t *testing.T) {
	x := made(t, 100)
	for id := range uint32(10000) {
		wantPut(t, x, id, 1, api.OK)
		if id >= 3 && !x.Drop(id-3) {
			t.Fatalf("Drop(%d)", id-3)
		}
		if wantNoId(t, x, id+1); x.Steps() > 4 {
			t.Fatalf("%d steps with at most 3 items", x.Steps())
		}
	}
}

// R4, R5: what is no index: nil, one that was not made, one that was copied by its value.
func TestNone(t *testing.T) {
	first := made(t, 3, pair{1, 10}, pair{2, 20})
	copied := *first
	for what, x := range map[string]*index.Index{"nil": nil, "zero": {}, "copied": &copied} {
		for _, id := range []uint32{0, 1, 2, math.MaxUint32} {
			if err := x.Put(id, 1); err != api.ErrNil {
				t.Errorf("%s: Put(%d): %d", what, id, err)
			}
			if v, ok := x.Get(id); v != 0 || ok {
				t.Errorf("%s: Get(%d): %d, %v", what, id, v, ok)
			}
			if x.Set(id, 1) || x.Drop(id) {
				t.Errorf("%s: Set or Drop of %d", what, id)
			}
		}
		if x.Most() != 0 || x.Len() != 0 || x.Steps() != 0 || x.Slots() != 0 {
			t.Errorf("%s: Most %d, Len %d, Steps %d, Slots %d", what, x.Most(), x.Len(), x.Steps(), x.Slots())
		}
		if all := x.All(); all == nil || len(allOf(x)) != 0 {
			t.Errorf("%s: All: %v", what, allOf(x))
		}
	}
	wantItems(t, "the first one", first, pair{1, 10}, pair{2, 20})
}

// R5, R7: two indexes share nothing, and may be used at one time.
func TestTwo(t *testing.T) {
	var wait sync.WaitGroup
	all := make([][]pair, 8)
	for k := range all {
		x := made(t, 64)
		wait.Go(func() {
			for id := range uint32(64) {
				x.Put(id, k)
			}
			for id := range uint32(64) {
				if int(id)%8 != k {
					x.Drop(id)
				}
			}
			all[k] = allOf(x)
		})
	}
	wait.Wait()
	for k, l := range all {
		var want []pair
		for j := range 8 {
			want = append(want, pair{uint32(8*j + k), k})
		}
		if !slices.Equal(l, want) {
			t.Errorf("%d: %v, want %v", k, l, want)
		}
	}
}

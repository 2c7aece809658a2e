package heap_test

import (
	"math"
	"slices"
	"sync"
	"testing"

	"gangway/api"
	"gangway/heap"
)

// pair is a handle and its item.
type pair struct {
	handle, item int
}

func isLess(a, b int) bool {
	return a < b
}

// made answers a heap of numbers by their size, with those items.
func made(t *testing.T, items ...int) *heap.Heap[int] {
	t.Helper()
	h := heap.New(isLess)
	for handle, v := range items {
		wantPush(t, h, v, handle)
	}
	return h
}

func wantPush(t *testing.T, h *heap.Heap[int], v, handle int) {
	t.Helper()
	if n, err := h.Push(v); n != handle || err != api.OK {
		t.Fatalf("Push(%d): %d, %d, want %d", v, n, err, handle)
	}
}

// wantPop: Least and then Pop tell that item and handle.
func wantPop[T comparable](t *testing.T, h *heap.Heap[T], item T, handle int) {
	t.Helper()
	count := h.Len()
	if v, n, ok := h.Least(); v != item || n != handle || !ok || h.Len() != count {
		t.Fatalf("Least: %v, %d, %v, want %v, %d; %d items, want %d", v, n, ok, item, handle, h.Len(), count)
	}
	if v, n, ok := h.Pop(); v != item || n != handle || !ok || h.Len() != count-1 {
		t.Fatalf("Pop: %v, %d, %v, want %v, %d; %d items, want %d", v, n, ok, item, handle, h.Len(), count-1)
	}
	wantNoHandle(t, h, handle)
}

// wantEmpty: nothing is there.
func wantEmpty[T comparable](t *testing.T, what string, h *heap.Heap[T]) {
	t.Helper()
	var zero T
	if v, n, ok := h.Least(); v != zero || n != 0 || ok {
		t.Errorf("%s: Least: %v, %d, %v", what, v, n, ok)
	}
	if v, n, ok := h.Pop(); v != zero || n != 0 || ok {
		t.Errorf("%s: Pop: %v, %d, %v", what, v, n, ok)
	}
	if h.Len() != 0 {
		t.Errorf("%s: %d items", what, h.Len())
	}
	all := h.All()
	if all == nil {
		t.Fatalf("%s: All is nil", what)
	}
	for n, v := range all {
		t.Errorf("%s: All: %d, %v", what, n, v)
	}
}

// wantNoHandle: there is no item of that handle.
func wantNoHandle[T comparable](t *testing.T, h *heap.Heap[T], handle int) {
	t.Helper()
	var zero T
	if v, ok := h.Get(handle); v != zero || ok {
		t.Errorf("Get(%d): %v, %v", handle, v, ok)
	}
	if h.Set(handle, zero) {
		t.Errorf("Set(%d)", handle)
	}
	if h.Drop(handle) {
		t.Errorf("Drop(%d)", handle)
	}
}

func allOf(h *heap.Heap[int]) []pair {
	var l []pair
	for handle, item := range h.All() {
		l = append(l, pair{handle, item})
	}
	return l
}

func wantAll(t *testing.T, what string, h *heap.Heap[int], want ...pair) {
	t.Helper()
	if l := allOf(h); !slices.Equal(l, want) {
		t.Errorf("%s: All: %v, want %v", what, l, want)
	}
}

// P12.1 to P12.5: the chapter's examples 1 to 3.
func TestExamples(t *testing.T) {
	h := made(t, 5, 3, 8, 3)
	if h.Len() != 4 {
		t.Error("Len:", h.Len())
	}
	wantAll(t, "four", h, pair{0, 5}, pair{1, 3}, pair{2, 8}, pair{3, 3})
	wantPop(t, h, 3, 1)
	wantPop(t, h, 3, 3)
	wantPop(t, h, 5, 0)
	if v, ok := h.Get(2); v != 8 || !ok {
		t.Errorf("Get(2): %d, %v", v, ok)
	}
	wantPush(t, h, 9, 4)
	if !h.Set(4, 1) {
		t.Error("Set(4)")
	}
	if v, n, ok := h.Least(); v != 1 || n != 4 || !ok {
		t.Errorf("Least: %d, %d, %v", v, n, ok)
	}
	if !h.Drop(4) {
		t.Error("Drop(4)")
	}
	wantNoHandle(t, h, 4)
	wantNoHandle(t, h, -1)
	wantPop(t, h, 8, 2)
	wantEmpty(t, "all popped", h)
}

// P12.1: what New answers, for items of several types.
func TestNew(t *testing.T) {
	if heap.New[int](nil) != nil || heap.New[func()](nil) != nil {
		t.Error("New(nil) is a heap")
	}
	wantEmpty(t, "numbers", heap.New(isLess))
	wantEmpty(t, "texts", heap.New(func(a, b string) bool { return a < b }))
	wantEmpty(t, "any", heap.New(func(a, b any) bool { return false }))
	a, b := heap.New(isLess), heap.New(isLess)
	wantPush(t, a, 1, 0)
	wantEmpty(t, "another one", b) // R5: two heaps share nothing
	wantPush(t, b, 2, 0)
}

// P12.1: less is asked of items that are there, or are pushed or set just then, and of no others.
func TestWhatLessIsAsked(t *testing.T) {
	there := map[int]bool{} // items, each of which comes once
	asked := 0
	h := heap.New(func(a, b int) bool {
		asked++
		if !there[a] || !there[b] {
			t.Errorf("less is asked of %d and %d", a, b)
		}
		return a%17 < b%17
	})
	chance := numbers(1)
	for item := range 3000 {
		there[item] = true
		handle := chance(item/2 + 1)
		was, ok := h.Get(handle)
		switch chance(6) {
		case 0:
			was, _, ok = h.Pop()
		case 1:
			h.Drop(handle)
		case 2:
			h.Set(handle, item)
		default:
			h.Push(item)
			ok = false
		}
		if ok {
			there[was] = false
		}
	}
	if asked == 0 {
		t.Error("less is never asked")
	}
}

// P12.2: handles rise by one, and none is used again, however its item went.
func TestHandles(t *testing.T) {
	h := made(t, 5, 6, 7)
	h.Pop()
	wantPush(t, h, 4, 3)
	h.Drop(3)
	wantPush(t, h, 4, 4)
	h.Set(4, 40)
	wantPush(t, h, 4, 5)
	for h.Len() > 0 {
		h.Pop()
	}
	wantPush(t, h, 4, 6)
	wantAll(t, "the last one", h, pair{6, 4})
}

// P12.2: MaxItems items; one more is refused, changes nothing and uses no handle.
func TestFull(t *testing.T) {
	for what, item := range map[string]func(k int) int{
		"rising":  func(k int) int { return k },
		"falling": func(k int) int { return -k },
		"equal":   func(k int) int { return 7 },
		"mixed":   func(k int) int { return k * 40503 % 1009 },
	} {
		h := heap.New(isLess)
		var want []pair
		for k := range api.MaxItems {
			wantPush(t, h, item(k), k)
			want = append(want, pair{k, item(k)})
		}
		for range 2 {
			if n, err := h.Push(math.MinInt); n != 0 || err != api.ErrFull {
				t.Fatalf("%s: one more: %d, %d", what, n, err)
			}
		}
		if h.Len() != api.MaxItems {
			t.Fatalf("%s: %d items", what, h.Len())
		}
		wantAll(t, what, h, want...)
		if !h.Drop(500) || !h.Set(600, item(600)-1) {
			t.Errorf("%s: Drop and Set of a full heap", what)
		}
		want[600].item--
		wantPush(t, h, item(500), api.MaxItems)
		want = append(slices.Delete(want, 500, 501), pair{api.MaxItems, item(500)})
		if n, err := h.Push(0); n != 0 || err != api.ErrFull {
			t.Fatalf("%s: full again: %d, %d", what, n, err)
		}
		slices.SortStableFunc(want, func(a, b pair) int { return a.item - b.item })
		for _, p := range want {
			if v, n, ok := h.Pop(); v != p.item || n != p.handle || !ok {
				t.Fatalf("%s: Pop: %d, %d, %v, want %v", what, v, n, ok, p)
			}
		}
		wantEmpty(t, what, h)
	}
}

// P12.3, P12.7: of items that are as good the one with the least handle comes first, also if it was set.
func TestEqualItems(t *testing.T) {
	type named struct {
		worth int
		name  string
	}
	h := heap.New(func(a, b named) bool { return a.worth < b.worth })
	for _, name := range []string{"a", "b", "c", "d", "e", "f", "g", "h"} {
		h.Push(named{1, name})
	}
	h.Set(5, named{0, "F"})
	h.Set(2, named{0, "C"})
	h.Set(0, named{2, "A"})
	h.Set(7, named{1, "H"})
	h.Set(4, named{0, "E"})
	h.Set(4, named{1, "e"})
	h.Drop(3)
	h.Push(named{0, "i"})
	for _, want := range []struct {
		item   named
		handle int
	}{
		{named{0, "C"}, 2}, {named{0, "F"}, 5}, {named{0, "i"}, 8},
		{named{1, "b"}, 1}, {named{1, "e"}, 4}, {named{1, "g"}, 6}, {named{1, "H"}, 7},
		{named{2, "A"}, 0},
	} {
		wantPop(t, h, want.item, want.handle)
	}
	wantEmpty(t, "all popped", h)
}

// P12.4: Get, Set and Drop of handles that are there, and of all kinds that are not.
func TestByHandle(t *testing.T) {
	h := made(t, 50, 40, 30, 20, 10)
	h.Drop(2)
	for _, handle := range []int{2, 5, 6, -1, math.MinInt, math.MaxInt, api.MaxItems} {
		wantNoHandle(t, h, handle)
	}
	wantAll(t, "what is not there", h, pair{0, 50}, pair{1, 40}, pair{3, 20}, pair{4, 10})
	for _, p := range []pair{{0, 50}, {1, 40}, {3, 20}, {4, 10}} {
		if v, ok := h.Get(p.handle); v != p.item || !ok {
			t.Errorf("Get(%d): %d, %v", p.handle, v, ok)
		}
	}
	if !h.Set(4, 60) || !h.Set(0, 15) || !h.Set(3, 20) || h.Len() != 4 {
		t.Error("Set")
	}
	wantAll(t, "set", h, pair{0, 15}, pair{1, 40}, pair{3, 20}, pair{4, 60})
	if !h.Drop(1) || h.Len() != 3 {
		t.Error("Drop")
	}
	wantPop(t, h, 15, 0)
	wantPop(t, h, 20, 3)
	wantPop(t, h, 60, 4)
	wantEmpty(t, "all popped", h)
}

// P12.5, R4: All tells what was there when it was called; it may be left early and gone through again,
// and the heap may be changed in its midst.
func TestAll(t *testing.T) {
	h := made(t, 9, 8, 7, 6)
	then := h.All()
	want := []pair{{0, 9}, {1, 8}, {2, 7}, {3, 6}}
	gone := func(most int) []pair {
		var l []pair
		for handle, item := range then {
			if len(l) == most {
				break
			}
			l = append(l, pair{handle, item})
			h.Pop()
			h.Push(item * 100)
			h.Set(handle, -item)
		}
		return l
	}
	for _, most := range []int{0, 1, 3, 4, 9, 4} {
		if l := gone(most); !slices.Equal(l, want[:min(most, 4)]) {
			t.Errorf("%d of All: %v", most, l)
		}
	}
	for h.Len() > 0 {
		h.Pop()
	}
	if l := gone(9); !slices.Equal(l, want) {
		t.Errorf("All behind the last Pop: %v", l)
	}
}

// P12.6, R4: what is no heap: nil, one that was not made, one that was copied by its value.
func TestNone(t *testing.T) {
	first := made(t, 4, 5)
	copied := *first
	for what, h := range map[string]*heap.Heap[int]{"nil": nil, "zero": {}, "copied": &copied} {
		for range 2 {
			if n, err := h.Push(1); n != 0 || err != api.ErrNil {
				t.Errorf("%s: Push: %d, %d", what, n, err)
			}
			wantEmpty(t, what, h)
			for _, handle := range []int{-1, 0, 1} {
				wantNoHandle(t, h, handle)
			}
		}
	}
	wantAll(t, "the first one", first, pair{0, 4}, pair{1, 5})
	wantPush(t, first, 6, 2)
	wantPop(t, first, 4, 0)
}

// Items are handed on as they were handed in; nothing within them is copied.
func TestItemsAsHandedIn(t *testing.T) {
	h := heap.New(func(a, b []int) bool { return len(a) < len(b) })
	a := make([]int, 2, 5)
	h.Push(a)
	h.Push([]int{1, 2, 3})
	a[1] = 7
	if v, _, _ := h.Least(); len(v) != 2 || cap(v) != 5 || &v[0] != &a[0] || v[1] != 7 {
		t.Error("Least tells another list")
	}
	if v, _ := h.Get(0); &v[0] != &a[0] {
		t.Error("Get tells another list")
	}
	for _, v := range h.All() {
		if &v[0] != &a[0] {
			t.Error("All tells another list")
		}
		break
	}
	h.Set(0, nil)
	if v, n, ok := h.Pop(); v != nil || n != 0 || !ok {
		t.Errorf("Pop of nil: %v, %d, %v", v, n, ok)
	}
}

// P12.4: an item that was changed where it points to stands where it belongs once it is set.
func TestSetOfTheSamePointer(t *testing.T) {
	h := heap.New(func(a, b *int) bool { return *a < *b })
	for k := range 20 {
		h.Push(&k)
	}
	for _, c := range []pair{{0, 50}, {1, 49}, {13, -3}, {19, -4}, {13, 48}} {
		v, _ := h.Get(c.handle)
		*v = c.item
		h.Set(c.handle, v)
	}
	last := math.MinInt
	for h.Len() > 0 {
		v, _, _ := h.Pop()
		if *v < last {
			t.Errorf("%d behind %d", *v, last)
		}
		last = *v
	}
	if last != 50 {
		t.Error("the last one is", last)
	}
}

// P12.3: items for which less is no order leave nothing behind once they have gone.
func TestNotNumbersThatWent(t *testing.T) {
	chance := numbers(4)
	for range 300 {
		h := heap.New(func(a, b float64) bool { return a < b })
		var odd []int
		for range 1 + chance(40) {
			v := float64(chance(30))
			if chance(3) == 0 {
				v = math.NaN()
			}
			if n, _ := h.Push(v); v != v {
				odd = append(odd, n)
			}
		}
		for _, n := range odd {
			if chance(2) == 0 {
				h.Set(n, float64(chance(30)))
			} else {
				h.Drop(n)
			}
		}
		lastItem, lastHandle := -1.0, -1
		for h.Len() > 0 {
			v, n, ok := h.Pop()
			if !ok || v < lastItem || v == lastItem && n < lastHandle {
				t.Fatalf("Pop: %v, %d, %v behind %v, %d", v, n, ok, lastItem, lastHandle)
			}
			lastItem, lastHandle = v, n
		}
	}
}

// wantEach: Pop tells each of the items 0 to count - 1, pushed in that order, once.
func wantEach(t *testing.T, what string, h *heap.Heap[int], count int) {
	t.Helper()
	told := make([]bool, count)
	for left := count; left > 0; left-- {
		a, k, is := h.Least()
		v, n, ok := h.Pop()
		if !ok || !is || v != n || told[n] || h.Len() != left-1 || a != v || k != n {
			t.Fatalf("%s: Least: %d, %d, %v; Pop: %d, %d, %v; %d items", what, a, k, is, v, n, ok, h.Len())
		}
		told[n] = true
	}
	wantEmpty(t, what, h)
}

// P12.3, R1: where less is no order, one of the items is told, each one's handle once; also if less
// panics, or answers otherwise each time.
func TestNoOrder(t *testing.T) {
	chance := numbers(6)
	for what, less := range map[string]func(a, b int) bool{
		"always":       func(a, b int) bool { return true },
		"never":        func(a, b int) bool { return false },
		"round":        func(a, b int) bool { return (b-a+99)%3 == 1 },
		"not the same": func(a, b int) bool { return a != b },
		"any":          func(a, b int) bool { return chance(2) == 0 },
		"panics":       func(a, b int) bool { panic("less") },
		"may panic":    func(a, b int) bool { return []bool{true, false}[chance(3)] },
	} {
		for count := range 40 {
			h := heap.New(less)
			for k := range count {
				wantPush(t, h, k, k)
			}
			for k := range count {
				if !h.Set(k, k) {
					t.Fatalf("%s: Set(%d)", what, k)
				}
			}
			wantEach(t, what, h, count)
		}
	}
}

// R1: a less that calls its own heap does no harm.
func TestLessThatCallsTheHeap(t *testing.T) {
	var h *heap.Heap[int]
	h = heap.New(func(a, b int) bool {
		h.Push(77)
		h.Least()
		h.Set(0, 77)
		h.Drop(a)
		h.Pop()
		for range h.All() {
			h.Drop(b)
		}
		return a < b
	})
	for k := range 30 {
		wantPush(t, h, k, k)
	}
	wantEach(t, "calls the heap", h, 30)
	wantPush(t, h, 1, 30)
}

// R7: calls on different heaps may be made at one time, also with one less.
func TestAtOneTime(t *testing.T) {
	var wait sync.WaitGroup
	for range 8 {
		wait.Go(func() {
			h := heap.New(isLess)
			for k := range 500 {
				h.Push(-k)
			}
			for k := 499; k >= 0; k-- {
				if v, n, ok := h.Pop(); v != -k || n != k || !ok {
					t.Errorf("Pop: %d, %d, %v, want %d", v, n, ok, k)
				}
			}
		})
	}
	wait.Wait()
}

package heap_test

import (
	"slices"
	"testing"

	"gangway/api"
	"gangway/heap"
)

// model is a heap as the chapter's words say it: items by rising handles.
type model struct {
	less  func(a, b int) bool
	next  int
	items []pair
}

func (m *model) push(v int) int {
	m.items = append(m.items, pair{m.next, v})
	m.next++
	return m.next - 1
}

// at answers where the item of that handle stands, or -1.
func (m *model) at(handle int) int {
	return slices.IndexFunc(m.items, func(p pair) bool { return p.handle == handle })
}

func (m *model) drop(handle int) {
	m.items = slices.DeleteFunc(m.items, func(p pair) bool { return p.handle == handle })
}

// least answers the first item than which no other is less.
func (m *model) least() pair {
	for _, p := range m.items {
		if !slices.ContainsFunc(m.items, func(q pair) bool { return m.less(q.item, p.item) }) {
			return p
		}
	}
	panic("less is no order")
}

// hasOrder tells whether less is an order of the items.
func (m *model) hasOrder() bool {
	var kinds []int
	for _, p := range m.items {
		if !slices.Contains(kinds, p.item) {
			kinds = append(kinds, p.item)
		}
	}
	none := func(a, b int) bool { return !m.less(a, b) && !m.less(b, a) }
	for _, a := range kinds {
		if m.less(a, a) {
			return false
		}
		for _, b := range kinds {
			for _, c := range kinds {
				if m.less(a, b) && m.less(b, c) && !m.less(a, c) || none(a, b) && none(b, c) && !none(a, c) {
					return false
				}
			}
		}
	}
	return true
}

// numbers answers a function that tells numbers below a bound, the same ones for one seed.
func numbers(seed uint64) func(below int) int {
	n := seed
	return func(below int) int {
		n = n*6364136223846793005 + 1442695040888963407
		return int(n >> 33 % uint64(below))
	}
}

// wantLeast: the least item as the model tells it, or, where less is no order, one of the items.
func wantLeast(t *testing.T, what string, m *model, item, handle int, ok bool) {
	t.Helper()
	if len(m.items) == 0 {
		if item != 0 || handle != 0 || ok {
			t.Fatalf("%s of none: %d, %d, %v", what, item, handle, ok)
		}
		return
	}
	told := pair{handle, item}
	if !ok || !slices.Contains(m.items, told) {
		t.Fatalf("%s: %v, %v, which is none of %v", what, told, ok, m.items)
	}
	if m.hasOrder() && told != m.least() {
		t.Fatalf("%s: %v, want %v of %v", what, told, m.least(), m.items)
	}
}

// step does one thing to the heap and the model alike, with items below kinds, and holds their answers
// against each other.
func step(t *testing.T, chance func(int) int, h *heap.Heap[int], m *model, kinds int) {
	t.Helper()
	handle, v := chance(m.next+2)-1, chance(kinds)
	at := m.at(handle)
	switch chance(6) {
	case 0, 1:
		if n, err := h.Push(v); n != m.push(v) || err != api.OK {
			t.Fatalf("Push: %d, %d, want %d", n, err, m.next-1)
		}
	case 2:
		item, n, ok := h.Pop()
		wantLeast(t, "Pop", m, item, n, ok)
		if ok {
			m.drop(n)
		}
	case 3:
		if h.Drop(handle) != (at >= 0) {
			t.Fatalf("Drop(%d): want %v", handle, at >= 0)
		}
		m.drop(handle)
	case 4:
		if h.Set(handle, v) != (at >= 0) {
			t.Fatalf("Set(%d): want %v", handle, at >= 0)
		}
		if at >= 0 {
			m.items[at].item = v
		}
	case 5:
		item, ok := h.Get(handle)
		if ok != (at >= 0) || ok && item != m.items[at].item || !ok && item != 0 {
			t.Fatalf("Get(%d): %d, %v", handle, item, ok)
		}
	}
	item, n, ok := h.Least()
	wantLeast(t, "Least", m, item, n, ok)
	if h.Len() != len(m.items) || !slices.Equal(allOf(h), m.items) {
		t.Fatalf("%d items, All: %v, want %v", h.Len(), allOf(h), m.items)
	}
}

// emptied: Pop, until there is none, as the model.
func emptied(t *testing.T, h *heap.Heap[int], m *model) {
	t.Helper()
	for len(m.items) > 0 {
		item, n, ok := h.Pop()
		wantLeast(t, "Pop", m, item, n, ok)
		m.drop(n)
	}
	wantEmpty(t, "all popped", h)
}

// P12.1 to P12.5, P12.7: heaps of many items and of few, step by step as the model.
func TestAsModel(t *testing.T) {
	for seed := range 30 {
		chance := numbers(uint64(seed))
		m := &model{less: isLess}
		h := heap.New(isLess)
		for range chance(100) {
			v := chance(50)
			wantPush(t, h, v, m.push(v))
		}
		kinds := 1 + chance(60)
		for range 100 {
			step(t, chance, h, m, kinds)
		}
		emptied(t, h, m)
	}
}

// P12.3, P12.7: whatever less answers of three kinds of items, and whatever came ahead: as soon as it is
// an order of the items that are there, the least one is told.
func TestEveryLessOfThree(t *testing.T) {
	for table := range 1 << 9 {
		less := func(a, b int) bool { return table>>(3*a+b)&1 == 1 }
		for seed := range 4 {
			chance := numbers(uint64(table*4 + seed))
			m := &model{less: less}
			h := heap.New(less)
			for range 60 {
				step(t, chance, h, m, 3)
			}
			emptied(t, h, m)
		}
	}
}

// P12.7: orders that were no order on the way: some items go round, as long as there are others of them.
func TestOrderThatComesAndGoes(t *testing.T) {
	less := func(a, b int) bool {
		if a >= 20 && b >= 20 { // these beat one another in a round
			return (b-a+30)%5 == 1
		}
		return a < b
	}
	ordered := 0
	for seed := range 100 {
		chance := numbers(uint64(seed))
		m := &model{less: less}
		h := heap.New(less)
		for range 80 {
			step(t, chance, h, m, 25)
			if m.hasOrder() && len(m.items) > 3 {
				ordered++
			}
		}
		emptied(t, h, m)
	}
	if ordered == 0 {
		t.Error("less was never an order")
	}
}

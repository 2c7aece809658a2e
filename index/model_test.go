package index_test

import (
	"slices"
	"testing"

	"gangway/api"
	"gangway/index"
)

// model is an index as the chapter's words say it: a list of items, in the order in which they came.
type model struct {
	most  int
	items []pair
}

// at answers where the item of that id stands, or -1.
func (m *model) at(id uint32) int {
	return slices.IndexFunc(m.items, func(p pair) bool { return p.id == id })
}

func (m *model) put(id uint32, v int) api.Errno {
	if m.at(id) >= 0 {
		return api.ErrThere
	}
	if len(m.items) == m.most {
		return api.ErrFull
	}
	m.items = append(m.items, pair{id, v})
	return api.OK
}

func (m *model) drop(id uint32) {
	m.items = slices.DeleteFunc(m.items, func(p pair) bool { return p.id == id })
}

// rising answers the items by rising ids.
func (m *model) rising() []pair {
	var l []pair
	for _, p := range m.items {
		at, _ := slices.BinarySearchFunc(l, p, func(a, b pair) int { return int(a.id) - int(b.id) })
		l = slices.Insert(l, at, p)
	}
	return l
}

// numbers answers a function that tells numbers below a bound, the same ones for one seed.
func numbers(seed uint64) func(below int) int {
	n := seed
	return func(below int) int {
		n = n*6364136223846793005 + 1442695040888963407
		return int(n >> 33 % uint64(below))
	}
}

// The kinds of steps.
const (
	toPut = iota
	toSet
	toGet
	toDrop
	kinds
)

// step does one thing to the index and the model alike, and holds their answers against each other.
func step(t *testing.T, x *index.Index, m *model, kind int, id uint32, v int) {
	t.Helper()
	at := m.at(id)
	switch kind {
	case toPut:
		if got, want := x.Put(id, v), m.put(id, v); got != want {
			t.Fatalf("Put(%d): %d, want %d", id, got, want)
		}
	case toSet:
		if x.Set(id, v) != (at >= 0) {
			t.Fatalf("Set(%d): want %v", id, at >= 0)
		}
		if at >= 0 {
			m.items[at].value = v
		}
	case toGet:
		got, ok := x.Get(id)
		if ok != (at >= 0) || ok && got != m.items[at].value || !ok && got != 0 {
			t.Fatalf("Get(%d): %d, %v", id, got, ok)
		}
	case toDrop:
		if x.Drop(id) != (at >= 0) {
			t.Fatalf("Drop(%d): want %v", id, at >= 0)
		}
		m.drop(id)
	}
	wantSteps(t, "a step", x)
	if x.Len() != len(m.items) {
		t.Fatalf("%d items, want %d", x.Len(), len(m.items))
	}
}

// wantAsModel: the same items, and none of ids that the model has not.
func wantAsModel(t *testing.T, x *index.Index, m *model, ids []uint32) {
	t.Helper()
	wantItems(t, "as the model", x, m.rising()...)
	for _, id := range ids {
		if m.at(id) < 0 {
			wantNoId(t, x, id)
		}
	}
}

// crowded answers n ids whose searches begin on few slots, on the last one and the first one too, so that
// they get into one another's way over the end of the slots.
func crowded(slots, n int) []uint32 {
	var l []uint32
	for _, home := range []int{slots - 2, slots - 1, 0} {
		l = append(l, idsAt(home, slots, n)...)
	}
	return l
}

// P13.2 to P13.6: indexes of few items and of many, step by step as the model, with ids whose searches
// begin wherever they do.
func TestAsModel(t *testing.T) {
	for seed := range 60 {
		chance := numbers(uint64(seed))
		m := &model{most: 1 + chance(40)}
		x := made(t, m.most)
		var ids []uint32
		for range 1 + chance(2*m.most+2) {
			ids = append(ids, uint32(chance(1<<31)*2+chance(2)))
		}
		for range 300 {
			step(t, x, m, chance(kinds), ids[chance(len(ids))], chance(100)-50)
			wantItems(t, "as the model", x, m.rising()...)
		}
		wantAsModel(t, x, m, ids)
	}
}

// P13.2 to P13.6: the same with ids that crowd on few slots round the end.
func TestCrowdedAsModel(t *testing.T) {
	for seed := range 60 {
		chance := numbers(uint64(seed))
		m := &model{most: 1 + chance(12)}
		x := made(t, m.most)
		ids := crowded(x.Slots(), 1+m.most/2)
		for range 300 {
			step(t, x, m, chance(kinds), ids[chance(len(ids))], chance(100)-50)
			wantAsModel(t, x, m, ids)
		}
	}
}

// P13.6: every order in which up to five of six ids come, and every one of them that goes then, and comes
// again: the others are found all the same.
func TestEveryOrder(t *testing.T) {
	for most := 1; most <= 5; most++ {
		for home := range 2 {
			slots := made(t, most).Slots()
			ids := slices.Concat(idsAt(slots-1, slots, 3), idsAt(home, slots, 2), idsAt(slots-2, slots, 1))
			everyOrder(ids, most, func(order []uint32) {
				for gone := range order {
					oneGoes(t, most, ids, order, gone)
				}
			})
		}
	}
}

// oneGoes: the ids are put in that order, the one at gone is dropped, and put again.
func oneGoes(t *testing.T, most int, ids, order []uint32, gone int) {
	t.Helper()
	m := &model{most: most}
	x := made(t, most)
	for k, id := range order {
		step(t, x, m, toPut, id, k)
	}
	step(t, x, m, toDrop, order[gone], 0)
	wantAsModel(t, x, m, ids)
	step(t, x, m, toPut, order[gone], 9)
	wantAsModel(t, x, m, ids)
}

// everyOrder hands on each row of n of the ids, none of which it has twice.
func everyOrder(ids []uint32, n int, use func([]uint32)) {
	var row []uint32
	var fill func()
	fill = func() {
		if len(row) == n {
			use(row)
			return
		}
		for _, id := range ids {
			if !slices.Contains(row, id) {
				row = append(row, id)
				fill()
				row = row[:len(row)-1]
			}
		}
	}
	fill()
}

// P13.5, P13.6: as many items as there may be at all, all of whose searches begin on one slot, the last.
func TestMostOnOneSlot(t *testing.T) {
	x := made(t, api.MaxCodes)
	ids := idsAt(x.Slots()-1, x.Slots(), api.MaxCodes+1)
	var want []pair
	for k, id := range ids[:api.MaxCodes] {
		wantPut(t, x, id, k, api.OK)
		want = append(want, pair{id, k})
	}
	wantPut(t, x, ids[api.MaxCodes], 1, api.ErrFull)
	wantNoId(t, x, ids[api.MaxCodes])
	wantItems(t, "all", x, want...)
	for _, k := range []int{api.MaxCodes - 1, 2000, 0} {
		if !x.Drop(want[k].id) {
			t.Errorf("Drop(%d)", want[k].id)
		}
		wantSteps(t, "Drop", x)
		want = slices.Delete(want, k, k+1)
	}
	wantItems(t, "all but three", x, want...)
}

// P13.6: items that come and go a hundred times as often as there are slots.
func TestComingAndGoing(t *testing.T) {
	chance := numbers(7)
	m := &model{most: 64}
	x := made(t, m.most)
	for round := range 12800 {
		step(t, x, m, toPut, uint32(round), round)
		if len(m.items) == m.most {
			step(t, x, m, toDrop, m.items[chance(m.most)].id, 0)
		}
		if round%100 == 0 {
			wantItems(t, "on the way", x, m.rising()...)
		}
	}
	wantItems(t, "at the end", x, m.rising()...)
}

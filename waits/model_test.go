package waits_test

import (
	"fmt"
	"maps"
	"slices"

	"gangway/api"
)

// The document's words by another way than the package goes: what it is held against.

// model is the parties that wait, by Who.
type model map[uint32]api.Wait

// mayBe tells whether w is a party that may be: each field is one of its range.
func mayBe(w api.Wait) bool {
	since := w.Since >= 0 && w.Since <= 1<<40
	return w.Who > 0 && slices.Contains(upTo(1, 16), w.Size) && slices.Contains(upTo(0, 9), w.Tier) && since
}

// upTo answers the numbers from the one to the other.
func upTo(from, to int) []int {
	var l []int
	for n := from; n <= to; n++ {
		l = append(l, n)
	}
	return l
}

// text answers what comes by the alphabet as the party comes in the order: numbers of as many digits each.
func text(w api.Wait) string {
	return fmt.Sprintf("%d %013d %010d", 9-w.Tier, w.Since, w.Who)
}

func (m model) order() []api.Wait {
	byText := map[string]api.Wait{}
	for _, w := range m {
		byText[text(w)] = w
	}
	var l []api.Wait
	for _, s := range slices.Sorted(maps.Keys(byText)) {
		l = append(l, byText[s])
	}
	return l
}

func (m model) join(w api.Wait) api.Errno {
	_, isThere := m[w.Who]
	switch {
	case !mayBe(w):
		return api.ErrArg
	case isThere:
		return api.ErrThere
	case len(m) == 1024:
		return api.ErrFull
	}
	m[w.Who] = w
	return api.OK
}

func (m model) leave(who uint32) api.Errno {
	if _, isThere := m[who]; !isThere {
		return api.ErrUnknown
	}
	delete(m, who)
	return api.OK
}

func (m model) raise(who uint32, tier int) api.Errno {
	w, isThere := m[who]
	switch {
	case !slices.Contains(upTo(0, 9), tier):
		return api.ErrArg
	case !isThere:
		return api.ErrUnknown
	}
	m[who] = api.Wait{Who: who, Size: w.Size, Tier: tier, Since: w.Since}
	return api.OK
}

// get goes over all parties, for the place: how many texts come ahead.
func (m model) get(who uint32) (api.Wait, int, api.Errno) {
	w, isThere := m[who]
	if !isThere {
		return api.Wait{}, 0, api.ErrUnknown
	}
	place := 0
	for _, other := range m {
		if text(other) < text(w) {
			place++
		}
	}
	return w, place, api.OK
}

// serve lets those go that are taken.
func (m model) serve(seats int) ([]api.Wait, api.Errno) {
	if seats < 0 {
		return nil, api.ErrArg
	}
	l := served(m.order(), seats)
	for _, w := range l {
		delete(m, w.Who)
	}
	return l, api.OK
}

// served answers those of the row who are taken when there are so many seats.
func served(row []api.Wait, seats int) []api.Wait {
	if len(row) == 0 {
		return nil
	}
	if row[0].Size > seats {
		return served(row[1:], seats)
	}
	return append([]api.Wait{row[0]}, served(row[1:], seats-row[0].Size)...)
}

// numbers answers a function that tells numbers below a bound, the same ones for one seed.
func numbers(seed uint64) func(below int) int {
	n := seed
	return func(below int) int {
		n += 0x9E3779B97F4A7C15
		z := n
		z = (z ^ z>>30) * 0xBF58476D1CE4E5B9
		z = (z ^ z>>27) * 0x94D049BB133111EB
		return int((z ^ z>>31) >> 33 % uint64(below))
	}
}

// someParty answers a party with that Who; of Tiers and Sinces there are few, so that many are the same.
func someParty(next func(int) int, who uint32) api.Wait {
	since := int64(next(4))
	if next(4) == 0 {
		since = 1<<40 - int64(next(3))
	}
	return api.Wait{Who: who, Size: 1 + next(16), Tier: next(3) * (1 + next(4)), Since: since}
}

// orders answers all orders in which the parties may come.
func orders(l []api.Wait) [][]api.Wait {
	if len(l) == 0 {
		return [][]api.Wait{nil}
	}
	var all [][]api.Wait
	for i, w := range l {
		rest := slices.Delete(slices.Clone(l), i, i+1)
		for _, behind := range orders(rest) {
			all = append(all, append([]api.Wait{w}, behind...))
		}
	}
	return all
}

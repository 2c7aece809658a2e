package geometry_test

import (
	"math"
	"slices"
	"testing"

	"gangway/api"
	"gangway/geometry"
	"gangway/mix"
)

// The document's words, one by one: what the package is held against.

var sizes = []int{64, 128, 256, 512, 1024, 2048, 4096}

func shapeMayBe(s api.Shape) bool {
	return s.Seats >= 1 && s.Seats <= 1024 && s.Codes >= 1 && s.Codes <= 4096 && s.Group >= 1 && s.Group <= 64
}

// bytesOfImage puts 14 bytes for one booking behind the other, as long as there are seats and codes for it.
func bytesOfImage(s api.Shape) int {
	n := 20
	for i := 0; i < s.Seats && i < s.Codes; i++ {
		n += 14
	}
	return n
}

// holding lays sectors one behind the other till there are enough bytes.
func holding(bytes, size int) int {
	n := 0
	for n*size < bytes {
		n++
	}
	return n
}

func needOf(s api.Shape, size int) (int, api.Errno) {
	if !shapeMayBe(s) {
		return 0, api.ErrShape
	}
	if !slices.Contains(sizes, size) {
		return 0, api.ErrArg
	}
	slot := 1 + holding(bytesOfImage(s), size)
	return slot + slot + holding(54, size), api.OK
}

func planOf(sectors, size int, s api.Shape) (api.Layout, api.Errno) {
	if !shapeMayBe(s) {
		return api.Layout{}, api.ErrShape
	}
	if sectors < 1 || sectors > 65536 || !slices.Contains(sizes, size) || sectors > 67108864/size {
		return api.Layout{}, api.ErrArg
	}
	if need, _ := needOf(s, size); sectors < need {
		return api.Layout{}, api.ErrSmall
	}
	var l api.Layout
	l.Size = size
	l.A.Count = 1 + holding(bytesOfImage(s), size)
	l.B.From = l.A.Count
	l.B.Count = l.A.Count
	l.Log.From = l.A.Count + l.B.Count
	l.Log.Count = sectors - l.Log.From
	return l, api.OK
}

func wantAll(t *testing.T, sectors, size int, s api.Shape) {
	t.Helper()
	image := 0
	err := api.ErrShape
	if shapeMayBe(s) {
		image, err = bytesOfImage(s), api.OK
	}
	if e := geometry.Check(s); e != err {
		t.Errorf("Check(%v): %d, want %d", s, e, err)
	}
	if n, e := geometry.Image(s); n != image || e != err {
		t.Errorf("Image(%v): %d, %d, want %d, %d", s, n, e, image, err)
	}
	need, err := needOf(s, size)
	if n, e := geometry.Need(s, size); n != need || e != err {
		t.Errorf("Need(%v, %d): %d, %d, want %d, %d", s, size, n, e, need, err)
	}
	plan, err := planOf(sectors, size, s)
	if l, e := geometry.Plan(sectors, size, s); l != plan || e != err {
		t.Errorf("Plan(%d, %d, %v): %v, %d, want %v, %d", sectors, size, s, l, e, plan, err)
	}
}

// P9.1 to P9.3: every shape, size and number of sectors that are made of the edges, and of numbers that wrap round.
func TestModelAtEdges(t *testing.T) {
	far := []int{math.MinInt, -1 << 32, -1, 0, 1, 2, 1 << 32, 1<<32 + 1, math.MaxInt}
	seats := append([]int{1023, 1024, 1025}, far...)
	codes := append([]int{1024, 4095, 4096, 4097}, far...)
	groups := append([]int{63, 64, 65}, far...)
	bytes := append([]int{32, 63, 64, 65, 96, 192, 1024, 2048, 4095, 4096, 4097, 8192, 1 << 31, 1<<32 + 64}, far...)
	sectors := append([]int{4, 5, 6, 7, 8, 453, 16384, 16385, 32768, 32769, 65535, 65536, 65537, 1<<32 + 20, 1 << 57, 1 << 58}, far...)
	for _, seat := range seats {
		for _, code := range codes {
			for _, group := range groups {
				s := api.Shape{Seats: seat, Codes: code, Group: group}
				if !shapeMayBe(s) {
					wantAll(t, 20, 64, s)
					wantAll(t, 0, 65, s)
					continue
				}
				for _, size := range bytes {
					for _, n := range sectors {
						wantAll(t, n, size, s)
					}
				}
			}
		}
	}
}

// P9.1 to P9.3: shapes and disks as they come.
func TestModelAtRandom(t *testing.T) {
	words, err := mix.Words(9, 60000)
	if err != api.OK {
		t.Fatal(err)
	}
	below := func(n int) int {
		w := words[0]
		words = words[1:]
		return int(w % uint64(n))
	}
	for len(words) >= 6 {
		s := api.Shape{Seats: below(1060), Codes: below(4200), Group: below(68)}
		size := sizes[below(len(sizes))] + below(16)/15
		near, _ := needOf(s, size)
		wantAll(t, near-3+below(8), size, s)
	}
}

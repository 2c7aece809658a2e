package mix_test

import (
	"math"
	"slices"
	"strings"
	"sync"
	"testing"

	"gangway/api"
	"gangway/mix"
)

func words(t *testing.T, seed uint64, n int) []uint64 {
	t.Helper()
	l, err := mix.Words(seed, n)
	if err != api.OK || len(l) != n {
		t.Fatalf("Words(%X, %d): %d words, %d", seed, n, len(l), err)
	}
	return l
}

// P4.1, P4.2: the chapter's first example.
func TestHashExamples(t *testing.T) {
	for x, y := range map[uint64]uint64{0: 0, 1: 0x5692161D100B05E5} {
		if got := mix.Hash(x); got != y {
			t.Errorf("Hash(%X) = %X, want %X", x, got, y)
		}
		if got := mix.Back(y); got != x {
			t.Errorf("Back(%X) = %X, want %X", y, got, x)
		}
	}
}

// P4.1: the five steps, one behind the other.
func TestHash(t *testing.T) {
	next := numbers(1)
	l := edges()
	for range 5000 {
		l = append(l, next())
	}
	for x := range uint64(1000) {
		l = append(l, x, -x)
	}
	for _, x := range l {
		if got, want := mix.Hash(x), hashOf(x); got != want {
			t.Fatalf("Hash(%X) = %X, want %X", x, got, want)
		}
	}
}

// P4.2: the number that is told is the one whose hash, by the document's steps, is y.
func TestBack(t *testing.T) {
	next := numbers(2)
	l := edges()
	for range 5000 {
		l = append(l, next())
	}
	for y := range uint64(1000) {
		l = append(l, y, -y)
	}
	for _, y := range l {
		if x := mix.Back(y); hashOf(x) != y {
			t.Fatalf("Back(%X) = %X, whose hash is %X", y, x, hashOf(x))
		}
		if got := mix.Back(hashOf(y)); got != y {
			t.Fatalf("Back of the hash of %X = %X", y, got)
		}
	}
}

// P4.3: the chapter's second example.
func TestTextExamples(t *testing.T) {
	for s, want := range map[string]uint64{"": 0xCBF29CE484222325, "a": 0xAF63DC4C8601EC8C, "foobar": 0x85944171F73967E8} {
		if got := mix.Text(s); got != want {
			t.Errorf("Text(%q) = %X, want %X", s, got, want)
		}
	}
}

// P4.3: each byte counts as itself, also in texts that are no letters of any writing.
func TestTextOfBytes(t *testing.T) {
	for x := range 256 {
		for _, s := range []string{string([]byte{byte(x)}), "a" + string([]byte{byte(x)}), string([]byte{byte(x), 0xBC, byte(x)})} {
			if got, want := mix.Text(s), textOf(s); got != want {
				t.Fatalf("Text(%q) = %X, want %X", s, got, want)
			}
		}
	}
	for _, s := range []string{"ä", "日本", "\xff\xfe", "\xe6\x97", "\x00", "\x00\x00", "a\x00b", "\xef\xbf\xbd"} {
		if got, want := mix.Text(s), textOf(s); got != want {
			t.Errorf("Text(%q) = %X, want %X", s, got, want)
		}
	}
}

// P4.3: texts of any length, in order.
func TestTextOfLengths(t *testing.T) {
	next := numbers(3)
	for n := range 200 {
		s := textsOf(next, n)
		if got, want := mix.Text(s), textOf(s); got != want {
			t.Fatalf("Text of %d bytes = %X, want %X", n, got, want)
		}
	}
	long := strings.Repeat(textsOf(next, 1000), 70)
	if got, want := mix.Text(long), textOf(long); got != want {
		t.Errorf("Text of %d bytes = %X, want %X", len(long), got, want)
	}
	if mix.Text("ab") == mix.Text("ba") {
		t.Error("Text does not hang on the order")
	}
}

// P4.4: the chapter's third example.
func TestWordsExamples(t *testing.T) {
	if l := words(t, 0, 2); !slices.Equal(l, []uint64{0xE220A8397B1DCDAF, 0x6E789E6AA1B965F4}) {
		t.Errorf("Words(0, 2): %X", l)
	}
	words(t, 7, 0)
}

// P4.4: how many may be asked for, and how many not.
func TestWordsLimits(t *testing.T) {
	for _, seed := range []uint64{0, 7, math.MaxUint64} {
		for _, n := range []int{math.MinInt, math.MinInt + 1, math.MinInt32, -65536, -2, -1, 65537, 65538, 131072, 1 << 32, 1<<32 + 1, math.MaxInt} {
			if l, err := mix.Words(seed, n); len(l) != 0 || err != api.ErrArg {
				t.Errorf("Words(%X, %d): %d words, %d", seed, n, len(l), err)
			}
		}
		for _, n := range []int{0, 1, 2, 65535, 65536} {
			words(t, seed, n)
		}
	}
}

// P4.4: each word is the hash of its own number, also where the sums go round.
func TestWords(t *testing.T) {
	next := numbers(4)
	for _, seed := range append(edges(), next(), next()) {
		for i, got := range words(t, seed, 20) {
			if want := wordOf(seed, i+1); got != want {
				t.Fatalf("word %d of %X = %X, want %X", i+1, seed, got, want)
			}
		}
	}
	seed := next()
	for i, got := range words(t, seed, 65536) {
		if i%97 != 0 && i < 65500 {
			continue
		}
		if want := wordOf(seed, i+1); got != want {
			t.Fatalf("word %d of %X = %X, want %X", i+1, seed, got, want)
		}
	}
}

// P4.5: Hash and Back undo one another, and near numbers are hashed unlike.
func TestHashAndBackUndo(t *testing.T) {
	next := numbers(5)
	seen := map[uint64]uint64{}
	for i := range uint64(100000) {
		for _, x := range []uint64{i, i<<32 | 1<<20, next()} {
			y := mix.Hash(x)
			if mix.Back(y) != x || mix.Hash(mix.Back(x)) != x {
				t.Fatalf("%X: Back of Hash %X, Hash of Back %X", x, mix.Back(y), mix.Hash(mix.Back(x)))
			}
			if other, ok := seen[y]; ok && other != x {
				t.Fatalf("%X and %X are hashed alike", x, other)
			}
			seen[y] = x
		}
	}
}

// P4.5: words of one seed are unlike one another.
func TestWordsAreUnlike(t *testing.T) {
	for _, seed := range []uint64{0, 1, math.MaxUint64, gap.Uint64(), -gap.Uint64()} {
		l := words(t, seed, 65536)
		slices.Sort(l)
		if got := len(slices.Compact(l)); got != 65536 {
			t.Errorf("Words(%X, 65536): %d unlike ones", seed, got)
		}
	}
}

// P4.5: those of fewer begin those of more; those behind the first are the words of seed + G.
func TestWordsOfFewerAndOfLater(t *testing.T) {
	next := numbers(6)
	for _, seed := range []uint64{0, 1, math.MaxUint64, -gap.Uint64(), next()} {
		all := words(t, seed, 65536)
		for _, n := range []int{0, 1, 2, 3, 63, 64, 65, 1000, 65535} {
			if !slices.Equal(words(t, seed, n), all[:n]) {
				t.Errorf("Words(%X, %d) are not the beginning of more", seed, n)
			}
		}
		if !slices.Equal(words(t, seed+gap.Uint64(), 65535), all[1:]) {
			t.Errorf("Words(%X) behind the first one are others", seed)
		}
	}
}

// P4.5: Text of two texts is what the second one's bytes make of the first one's Text.
func TestTextOfTwo(t *testing.T) {
	next := numbers(7)
	for n := range 60 {
		whole := textsOf(next, n)
		for cut := range n + 1 {
			if got, want := mix.Text(whole), textMore(mix.Text(whole[:cut]), whole[cut:]); got != want {
				t.Fatalf("%d bytes cut at %d: %X, want %X", n, cut, got, want)
			}
		}
	}
}

// R3, R6: what is answered is new memory, and the same call answers the same.
func TestWordsAreNewMemory(t *testing.T) {
	l := words(t, 9, 100)
	want := slices.Clone(l)
	clear(l)
	if got := words(t, 9, 100); !slices.Equal(got, want) {
		t.Error("Words show what was written to an earlier answer")
	}
}

// R6, R7: calls at one time answer as calls one behind the other.
func TestAtOneTime(t *testing.T) {
	want := words(t, 5, 3000)
	var g sync.WaitGroup
	for range 8 {
		g.Go(func() {
			for range 20 {
				l, err := mix.Words(5, 3000)
				if err != api.OK || !slices.Equal(l, want) || mix.Text("foobar") != 0x85944171F73967E8 {
					t.Error("other answers")
				}
			}
		})
	}
	g.Wait()
}

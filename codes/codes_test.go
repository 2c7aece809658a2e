package codes_test

import (
	"strings"
	"sync"
	"testing"

	"gangway/api"
	"gangway/codes"
)

func parse(s string) parsed {
	id, at, err := codes.Parse(s)
	return parsed{id, at, err}
}

func wantParsed(t *testing.T, s string, want parsed) {
	t.Helper()
	if got := parse(s); got != want {
		t.Errorf("Parse(%.40q) of %d bytes: %v, want %v", s, len(s), got, want)
	}
}

// wantCode: the id is written so, and that is read as the id.
func wantCode(t *testing.T, id uint32, want string) {
	t.Helper()
	if s := codes.Text(id); s != want {
		t.Errorf("Text(%d): %q, want %q", id, s, want)
	}
	wantParsed(t, want, parsed{id: id})
}

// with answers s with that byte at a place.
func with(s string, at int, b byte) string {
	return s[:at] + string([]byte{b}) + s[at+1:]
}

// P15.1: the chapter's first example.
func TestTextExamples(t *testing.T) {
	for id, want := range map[uint32]string{0: "22222222", 1: "22222234", 2: "22222246", 31: "222222ZV", 32: "22222326",
		1000000: "222YJL22", 4294967295: "5ZZZZZZ2"} {
		wantCode(t, id, want)
	}
}

// P15.1, P15.4: each digit of each worth at each place, alone and among the highest ones.
func TestTextOfEachDigit(t *testing.T) {
	for place := range 7 {
		for worth := range uint64(32) {
			if n := worth << (5 * place); n < 1<<32 {
				wantCode(t, uint32(n), codeOf(uint32(n)))
				wantCode(t, ^uint32(n), codeOf(^uint32(n)))
			}
		}
	}
}

// P15.1, P15.4: ids at the edges, ids in a row, and any.
func TestTextOfMany(t *testing.T) {
	for _, id := range someIds(1, 20000) {
		wantCode(t, id, codeOf(id))
	}
	for id := range uint32(5000) {
		wantCode(t, id, codeOf(id))
		wantCode(t, ^id, codeOf(^id))
	}
}

// P15.2: the chapter's second and fourth examples.
func TestParseExamples(t *testing.T) {
	wantParsed(t, "22222234", parsed{id: 1})
	for s, at := range map[string]int{"": 0, "2222223": 7, "222222345": 8, "22i22234": 2, "22I22234": 2, "22222235": 7,
		"62222222": 0, "ZZZZZZZZ": 0, "0": 0, "22222264": 7, "22222346": 7} {
		wantParsed(t, s, failed(at))
	}
}

// P15.2: a text that lacks letters is told by its length, one that has more than eight by 8.
func TestParseOfAnyLength(t *testing.T) {
	for _, id := range edges() {
		code := codeOf(id)
		for n := range 8 {
			wantParsed(t, code[:n], failed(n))
		}
		for _, more := range []string{"2", "Z", "0", "i", " ", "\x00", "\xff", "\n", code, strings.Repeat("2", 70000), strings.Repeat("\x00", 70000)} {
			wantParsed(t, code+more, failed(8))
		}
	}
}

// P15.2: each byte at each place; letters are those of the row alone, and no small ones.
func TestParseOfEachByte(t *testing.T) {
	for _, id := range []uint32{0, 1, 31, 1000000, 1<<32 - 1} {
		code := codeOf(id)
		for at := range 8 {
			for b := range 256 {
				s := with(code, at, byte(b))
				wantParsed(t, s, parseOf(s))
				if strings.IndexByte(row, byte(b)) < 0 {
					wantParsed(t, s, failed(at))
				}
			}
		}
	}
	for _, b := range []byte("01IOabz /:@[`{\x00\x7f\x80\xff") {
		wantParsed(t, string([]byte{b}), failed(0))
	}
}

// P15.2: of several things that are wrong the first one in the promise's order is told.
func TestParseTellsTheFirst(t *testing.T) {
	for s, at := range map[string]int{
		"0i222222":  0, // two that are no letters
		"2222i2i2":  4,
		"222I":      3, // no letter, ahead of one that lacks
		"I":         0,
		"2222222I":  7, // no letter at the last place
		"2222222I2": 7, // no letter, ahead of one too many
		"6222I2222": 4, // no letter, a number too great and one too many
		"ZZZZZZZ":   7, // one lacks, and the number is too great
		"6222222":   7,
		"622222222": 8, // one too many, and the number is too great
		"ZZZZZZZZZ": 8,
		"22222235Z": 8, // one too many, and the check is wrong
		"22222222i": 8,
		"62222223":  0, // the number is too great, whatever the check is
		"é222222":   0,
		"222222é":   6,
		"2222222é":  7,
		"22222222é": 8,
	} {
		wantParsed(t, s, failed(at))
		wantParsed(t, s, parseOf(s))
	}
}

// P15.2: the number 2^32 - 1 is an id, those above it are none, with any letter behind them.
func TestParseAtTheLimit(t *testing.T) {
	wantParsed(t, "5ZZZZZZ2", parsed{id: 1<<32 - 1})
	next := numbers(2)
	above := []uint64{1 << 32, 1<<32 + 1, 1<<33 - 1, 1 << 33, 1 << 34, 1<<35 - 1, 1<<35 - 2, 1<<32 + 1<<31}
	for range 200 {
		above = append(above, 1<<32+uint64(next())%(1<<31), uint64(next())|1<<34)
	}
	for _, n := range above {
		seven := lettersOf(n)
		wantParsed(t, seven+checkOf(seven), failed(0))
		for k := range row {
			wantParsed(t, seven+row[k:k+1], failed(0))
		}
	}
	for k := range row {
		seven := row[k:k+1] + "222222"
		want := failed(0)
		if k < 4 {
			want = parsed{id: uint32(k) << 30}
		}
		wantParsed(t, seven+checkOf(seven), want)
	}
}

// P15.2, P15.4: any eight letters; what is taken is the Text of what is told.
func TestParseOfAnyLetters(t *testing.T) {
	next := numbers(3)
	taken := 0
	for range 50000 {
		s := string(row[next()%4])
		for len(s) < 8 {
			s += string(row[next()%32])
		}
		got := parse(s)
		if got != parseOf(s) {
			t.Fatalf("Parse(%q): %v, want %v", s, got, parseOf(s))
		}
		if got.err == api.OK {
			taken++
			if codes.Text(got.id) != s {
				t.Fatalf("Parse(%q): %d, whose Text is %q", s, got.id, codes.Text(got.id))
			}
		}
	}
	if taken < 1000 {
		t.Errorf("only %d were taken", taken)
	}
}

// P15.2, P15.4: texts of any bytes and any length near a code's.
func TestParseOfAnyText(t *testing.T) {
	next := numbers(4)
	const bytes = row + row + row + "01IOabyz \x00\xff"
	for range 50000 {
		var b []byte
		for range next() % 12 {
			b = append(b, bytes[next()%uint32(len(bytes))])
		}
		wantParsed(t, string(b), parseOf(string(b)))
	}
}

// P15.4: a code with one letter in the place of another one is no code.
func TestOneOtherLetter(t *testing.T) {
	for _, id := range someIds(5, 300) {
		code := codes.Text(id)
		for at := range 8 {
			for k := range row {
				if s := with(code, at, row[k]); s != code && parse(s).err != api.ErrCode {
					t.Errorf("Parse(%q): %v, made of %q", s, parse(s), code)
				}
			}
		}
	}
}

// P15.4: a code of which two unlike letters have changed places is no code.
func TestTwoChangedPlaces(t *testing.T) {
	for _, id := range someIds(6, 20000) {
		code := codes.Text(id)
		for a := range 8 {
			for b := range a {
				s := with(with(code, a, code[b]), b, code[a])
				if s != code && parse(s).err != api.ErrCode {
					t.Errorf("Parse(%q): %v, made of %q", s, parse(s), code)
				}
			}
		}
	}
}

// P15.3: the chapter's third example.
func TestNearExamples(t *testing.T) {
	for x, want := range map[[2]uint32]int{{1, 2}: 2, {1, 33}: 2, {1, 32}: 3, {0, 4294967295}: 7, {5, 5}: 0} {
		if n := codes.Near(x[0], x[1]); n != want {
			t.Errorf("Near(%v): %d, want %d", x, n, want)
		}
	}
}

// wantNear: just so many places are unlike, either way round; unlike ids have from 2 to 8 of them.
func wantNear(t *testing.T, a, b uint32) {
	t.Helper()
	v, w := codeOf(a), codeOf(b)
	want := 0
	for at := range 8 {
		if v[at] != w[at] {
			want++
		}
	}
	n := codes.Near(a, b)
	if n != want || codes.Near(b, a) != want || a != b && (n < 2 || n > 8) {
		t.Errorf("Near(%d, %d): %d, %d the other way round, want %d", a, b, n, codes.Near(b, a), want)
	}
}

// P15.3, P15.4: ids at the edges, ids in a row, and ids of which one digit is another one.
func TestNear(t *testing.T) {
	for _, a := range edges() {
		for _, b := range edges() {
			wantNear(t, a, b)
		}
		for k := range 32 {
			wantNear(t, a, a^1<<k)
			wantNear(t, a, a^31<<k)
		}
	}
	for a := range uint32(300) {
		for b := range a + 1 {
			wantNear(t, a, b)
		}
	}
	next := numbers(7)
	for range 20000 {
		wantNear(t, next(), next())
	}
}

// P15.3: all eight places may be unlike, and so may each count from 2 on.
func TestNearOfEachCount(t *testing.T) {
	next := numbers(8)
	seen := [9]int{}
	for range 20000 {
		a := next()
		seen[codes.Near(a, a^next()>>(next()%32))]++
	}
	for n := 2; n <= 8; n++ {
		if seen[n] == 0 {
			t.Errorf("no two ids were found of which Near is %d: %v", n, seen)
		}
	}
	if seen[1] != 0 {
		t.Errorf("Near was 1: %v", seen)
	}
}

// P15.4: no way round is shorter.
func TestNearByAnother(t *testing.T) {
	ids := someIds(9, 20)
	for _, a := range ids {
		for _, b := range ids {
			for _, c := range ids {
				if codes.Near(a, c) > codes.Near(a, b)+codes.Near(b, c) {
					t.Fatalf("Near(%d, %d): %d, by %d: %d and %d", a, c, codes.Near(a, c), b, codes.Near(a, b), codes.Near(b, c))
				}
			}
		}
	}
}

// R6, R7: calls at one time, and calls behind others that were refused, answer the same.
func TestAtOneTime(t *testing.T) {
	var all sync.WaitGroup
	for k := range 8 {
		all.Go(func() {
			for _, id := range someIds(uint64(k), 2000) {
				codes.Parse("2222223I")
				if s := codes.Text(id); s != codeOf(id) || parse(s) != (parsed{id: id}) || codes.Near(id, id) != 0 {
					t.Errorf("Text(%d): %q, %v", id, s, parse(s))
				}
			}
		})
	}
	all.Wait()
}

package codes_test

import (
	"strconv"
	"strings"

	"gangway/api"
)

// The document's words by another way than the package goes: what it is held against.

const row = "23456789ABCDEFGHJKLMNPQRSTUVWXYZ"

// usual are the digits to the base 32 that strconv writes, in the order of their worths.
const usual = "0123456789abcdefghijklmnopqrstuv"

// lettersOf answers n's digits to the base 32 as seven letters.
func lettersOf(n uint64) string {
	s := strconv.FormatUint(n, 32)
	s = strings.Repeat("0", 7-len(s)) + s
	return strings.Map(func(digit rune) rune { return rune(row[strings.IndexRune(usual, digit)]) }, s)
}

func doubledOf(worth int) int {
	if worth < 16 {
		return worth * 2
	}
	return worth*2 ^ 37
}

// checkOf answers the check letter of seven letters: each worth is doubled by itself, once for each place from
// its own to the seventh, and their bits are turned together at the end.
func checkOf(seven string) string {
	sum := 0
	for at, letter := range seven {
		worth := strings.IndexRune(row, letter)
		for range 7 - at {
			worth = doubledOf(worth)
		}
		sum ^= worth
	}
	return row[sum : sum+1]
}

func codeOf(id uint32) string {
	seven := lettersOf(uint64(id))
	return seven + checkOf(seven)
}

// parsed is what Parse tells.
type parsed struct {
	id  uint32
	at  int
	err api.Errno
}

func failed(at int) parsed {
	return parsed{at: at, err: api.ErrCode}
}

// parseOf answers what Parse is to tell of s.
func parseOf(s string) parsed {
	good := 0
	for good < min(len(s), 8) && strings.Contains(row, s[good:good+1]) {
		good++
	}
	switch {
	case good < 8:
		return failed(good)
	case len(s) > 8:
		return failed(8)
	}
	digits := strings.Map(func(letter rune) rune { return rune(usual[strings.IndexRune(row, letter)]) }, s[:7])
	id, err := strconv.ParseUint(digits, 32, 32)
	switch {
	case err != nil:
		return failed(0)
	case s[7:] != checkOf(s[:7]):
		return failed(7)
	}
	return parsed{id: uint32(id)}
}

// numbers tells as many numbers of 32 bits as one asks for, the same ones every time.
func numbers(seed uint64) func() uint32 {
	return func() uint32 {
		seed = seed*6364136223846793005 + 1442695040888963407
		return uint32(seed >> 32)
	}
}

// edges are ids at which digits and their carries go wrong first.
func edges() []uint32 {
	l := []uint32{0, 1, 2, 3, 30, 31, 32, 33, 1000000, 1<<32 - 1, 1<<32 - 2, 0xAAAAAAAA, 0x55555555}
	for k := range 32 {
		l = append(l, 1<<k, 1<<k-1, 1<<k+1, ^uint32(1<<k))
	}
	return l
}

// someIds are the edges and n others.
func someIds(seed uint64, n int) []uint32 {
	l := edges()
	next := numbers(seed)
	for range n {
		l = append(l, next()>>(next()%32))
	}
	return l
}

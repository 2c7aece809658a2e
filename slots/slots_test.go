package slots_test

import (
	"bytes"
	"math"
	"slices"
	"sync"
	"testing"

	"gangway/api"
	"gangway/crc"
	"gangway/disk"
	"gangway/power"
	"gangway/region"
	"gangway/slots"
)

func device(t *testing.T, sectors, size int) *power.Device {
	t.Helper()
	u, err := disk.New(sectors, size)
	if err != api.OK {
		t.Fatal("no disk:", err)
	}
	d, err := power.New(u)
	if err != api.OK {
		t.Fatal("no device:", err)
	}
	return d
}

func of(t *testing.T, d *power.Device, from, count int) *region.Region {
	t.Helper()
	r, err := region.New(d, api.Span{From: from, Count: count})
	if err != api.OK {
		t.Fatalf("no region from %d, count %d: %d", from, count, err)
	}
	return r
}

func slotsOf(t *testing.T, a, b *region.Region) *slots.Slots {
	t.Helper()
	s, err := slots.New(a, b)
	if err != api.OK || s == nil {
		t.Fatal("no slots:", err)
	}
	return s
}

// over answers the slots of three sectors each that begin at d's sectors 0 and 3.
func over(t *testing.T, d *power.Device) *slots.Slots {
	t.Helper()
	return slotsOf(t, of(t, d, 0, 3), of(t, d, 3, 3))
}

// made answers the chapter's examples' slots: 3 sectors of 64 bytes each, all bytes 0.
func made(t *testing.T) (*power.Device, *slots.Slots) {
	t.Helper()
	d := device(t, 6, 64)
	return d, over(t, d)
}

// headerOf answers the header of a body.
func headerOf(generation, covered uint64, body string) api.Header {
	return api.Header{Generation: generation, Covered: covered, Length: len(body), Sum: crc.Sum([]byte(body))}
}

// lay lets a slot's first sector be the header's bytes, and its room begin with the body.
func lay(t *testing.T, r *region.Region, h api.Header, body string) {
	t.Helper()
	b, err := slots.Header(h)
	wantErr(t, "Header", err, api.OK)
	wantErr(t, "Write", r.Write(0, b), api.OK)
	wantErr(t, "Write", r.Write(r.Size(), []byte(body)), api.OK)
}

func wantErr(t *testing.T, what string, err, want api.Errno) {
	t.Helper()
	if err != want {
		t.Errorf("%s: %d, want %d", what, err, want)
	}
}

// wantLoad: just that is found, by so many operations.
func wantLoad(t *testing.T, what string, d *power.Device, s *slots.Slots, h api.Header, body string, at, operations int) {
	t.Helper()
	was := d.Count()
	g, b, k, err := s.Load()
	if g != h || string(b) != body || k != at || err != api.OK {
		t.Errorf("%s: Load: %v, %q, %d, %d, want %v, %q, %d", what, g, b, k, err, h, body, at)
	}
	if d.Count()-was != operations {
		t.Errorf("%s: Load makes %d operations, want %d", what, d.Count()-was, operations)
	}
}

// wantNoLoad: Load tells that error, and nothing beside it.
func wantNoLoad(t *testing.T, what string, s *slots.Slots, want api.Errno) {
	t.Helper()
	if h, b, at, err := s.Load(); h != (api.Header{}) || len(b) != 0 || at != 0 || err != want {
		t.Errorf("%s: Load: %v, %q, %d, %d, want %d", what, h, b, at, err, want)
	}
}

func wantSave(t *testing.T, what string, s *slots.Slots, body string, covered uint64, want api.Header) {
	t.Helper()
	if h, err := s.Save([]byte(body), covered); h != want || err != api.OK {
		t.Errorf("%s: Save: %v, %d, want %v", what, h, err, want)
	}
}

func wantNoSave(t *testing.T, what string, s *slots.Slots, body string, want api.Errno) {
	t.Helper()
	if h, err := s.Save([]byte(body), 5); h != (api.Header{}) || err != want {
		t.Errorf("%s: Save: %v, %d, want %d", what, h, err, want)
	}
}

func wantCount(t *testing.T, what string, d *power.Device, want int) {
	t.Helper()
	if d.Count() != want {
		t.Errorf("%s: %d operations in all, want %d", what, d.Count(), want)
	}
}

// P11.1, P11.3, P11.4: the chapter's first example.
func TestExampleTurns(t *testing.T) {
	d, s := made(t)
	if s.Bytes() != 128 {
		t.Errorf("the room has %d bytes", s.Bytes())
	}
	wantLoad(t, "all bytes 0", d, s, api.Header{}, "", -1, 2)
	first := api.Header{Generation: 1, Covered: 7, Length: 3, Sum: 0x352441C2}
	wantSave(t, "the first one", s, "abc", 7, first)
	wantCount(t, "2 of Load, 5 of Save", d, 2+7)
	wantLoad(t, "saved", d, s, first, "abc", 0, 3)
	second := api.Header{Generation: 2, Covered: 9}
	wantSave(t, "the second one", s, "", 9, second)
	wantCount(t, "3 of Load, 3 of Save", d, 2+7+3+6)
	wantLoad(t, "saved", d, s, second, "", 1, 2)
	if d.Waiting() != 0 {
		t.Error("what was saved waits:", d.Waiting())
	}
}

// P11.4: the chapter's second example: the room's bytes at most.
func TestExampleLong(t *testing.T) {
	d, s := made(t)
	long := string(bytes.Repeat([]byte{7}, 129))
	wantNoSave(t, "129 bytes", s, long, api.ErrLong)
	wantCount(t, "129 bytes", d, 0)
	wantSave(t, "128 bytes", s, long[:128], 5, headerOf(1, 5, long[:128]))
	wantLoad(t, "128 bytes", d, s, headerOf(1, 5, long[:128]), long[:128], 0, 4)
	d.Arm(0)
	wantNoSave(t, "129 bytes, ahead of the device's error", s, long, api.ErrLong)
	wantNoSave(t, "128 bytes, armed", s, long[:128], api.ErrDown)
	wantNoSave(t, "129 bytes, down", s, long, api.ErrLong)
}

// P11.4, P11.5: the chapter's fourth example: the power goes at the last sync.
func TestExampleCutOff(t *testing.T) {
	for _, c := range []struct {
		fates []api.Fate
		saved bool
	}{
		{nil, false},
		{[]api.Fate{{Kind: api.FateKeep}}, true},
		{[]api.Fate{{Kind: api.FateTear, At: 0}}, false},
		{[]api.Fate{{Kind: api.FateTear, At: 31}}, false},
		{[]api.Fate{{Kind: api.FateTear, At: 32}}, true}, // behind the header's bytes the sector is 0, as it was
		{[]api.Fate{{Kind: api.FateTear, At: 64}}, true},
	} {
		d, s := made(t)
		wantSave(t, "the first one", s, "old", 1, headerOf(1, 1, "old"))
		d.Arm(7)
		wantNoSave(t, "cut off", s, "new body", api.ErrDown)
		if !d.Down() || d.Waiting() != 1 {
			t.Errorf("cut off: down %v, waiting %d", d.Down(), d.Waiting())
		}
		wantNoLoad(t, "down", s, api.ErrDown)
		d.Restart(c.fates)
		if c.saved {
			wantLoad(t, "kept", d, s, headerOf(2, 5, "new body"), "new body", 1, 3)
		} else {
			wantLoad(t, "lost", d, s, headerOf(1, 1, "old"), "old", 0, 3)
		}
	}
}

// P11.1: the chapter's third example, and what else may not be; nothing is read.
func TestNew(t *testing.T) {
	d, wide := device(t, 12, 64), device(t, 12, 128)
	var none region.Region
	for _, c := range []struct {
		what string
		a, b *region.Region
		want api.Errno
	}{
		{"none", nil, nil, api.ErrNil},
		{"no a", nil, of(t, d, 0, 2), api.ErrNil},
		{"no b", of(t, d, 0, 2), nil, api.ErrNil},
		{"a not made", &none, of(t, d, 0, 2), api.ErrNil},
		{"b not made", of(t, d, 0, 2), &none, api.ErrNil},
		{"no b, and a too small", of(t, d, 0, 1), nil, api.ErrNil},
		{"2 and 3 sectors", of(t, d, 0, 2), of(t, d, 2, 3), api.ErrArg},
		{"3 and 2 sectors", of(t, d, 2, 3), of(t, d, 0, 2), api.ErrArg},
		{"1 and 1 sectors", of(t, d, 0, 1), of(t, d, 1, 1), api.ErrArg},
		{"1 and 2 sectors", of(t, d, 0, 1), of(t, d, 1, 2), api.ErrArg},
		{"as many bytes, other sectors", of(t, d, 0, 8), of(t, wide, 0, 4), api.ErrArg},
		{"as many sectors, other bytes", of(t, d, 0, 4), of(t, wide, 0, 4), api.ErrArg},
	} {
		if s, err := slots.New(c.a, c.b); s != nil || err != c.want {
			t.Errorf("%s: %v, %d, want %d", c.what, s != nil, err, c.want)
		}
	}
	for _, c := range []struct {
		a, b *region.Region
		room int
	}{
		{of(t, d, 0, 2), of(t, d, 2, 2), 64},
		{of(t, d, 5, 4), of(t, d, 0, 4), 192},
		{of(t, wide, 0, 2), of(t, wide, 2, 2), 128},
		{of(t, d, 0, 2), of(t, device(t, 9, 64), 7, 2), 64}, // of two devices
	} {
		if s := slotsOf(t, c.a, c.b); s.Bytes() != c.room {
			t.Errorf("the room has %d bytes, want %d", s.Bytes(), c.room)
		}
	}
	wantCount(t, "New and Bytes", d, 0)
	d.Arm(0)
	d.Sync()
	if s := slotsOf(t, of(t, d, 0, 2), of(t, d, 2, 2)); s.Bytes() != 64 {
		t.Error("down: the room has", s.Bytes())
	}
}

// P11.2: which bytes a header has, which headers may be, and there and back again.
func TestHeader(t *testing.T) {
	b, err := slots.Header(api.Header{Generation: 0x0102030405060708, Covered: 0x1112131415161718, Length: 0x212223, Sum: 0x31323334})
	want := []byte{'G', 'A', 'N', 'G', 8, 7, 6, 5, 4, 3, 2, 1, 0x18, 0x17, 0x16, 0x15, 0x14, 0x13, 0x12, 0x11,
		0x23, 0x22, 0x21, 0, 0x34, 0x33, 0x32, 0x31}
	sum := crc.Sum(want)
	want = append(want, byte(sum), byte(sum>>8), byte(sum>>16), byte(sum>>24))
	if err != api.OK || !bytes.Equal(b, want) {
		t.Errorf("Header: %v, %d, want %v", b, err, want)
	}
	for _, h := range []api.Header{
		{Generation: 1},
		{Generation: math.MaxUint64, Covered: math.MaxUint64, Length: 1 << 26, Sum: math.MaxUint32},
		{Generation: 1 << 63, Length: 1},
		{Generation: 2, Covered: 1, Length: 1<<26 - 1, Sum: 9},
	} {
		b, err := slots.Header(h)
		wantErr(t, "Header", err, api.OK)
		if g, err := slots.Read(b); g != h || err != api.OK || len(b) != 32 {
			t.Errorf("%v is read as %v, %d", h, g, err)
		}
		if g, err := slots.Read(append(b, 1, 2, 3)); g != h || err != api.OK {
			t.Errorf("%v with others behind is read as %v, %d", h, g, err)
		}
	}
	for _, h := range []api.Header{
		{},
		{Covered: 1, Length: 1, Sum: 1},
		{Generation: 1, Length: -1},
		{Generation: 1, Length: 1<<26 + 1},
		{Generation: 1, Length: 1 << 32},
		{Generation: 1, Length: math.MinInt},
		{Generation: 1, Length: math.MaxInt},
	} {
		if b, err := slots.Header(h); len(b) != 0 || err != api.ErrArg {
			t.Errorf("Header(%v): %v, %d", h, b, err)
		}
	}
}

// sealed answers 28 bytes with their sum behind them.
func sealed(begin string, generation uint64, length uint32) []byte {
	b := []byte(begin)
	for i := range 8 {
		b = append(b, byte(generation>>(8*i)))
	}
	b = append(b, make([]byte, 8)...)
	for i := range 4 {
		b = append(b, byte(length>>(8*i)))
	}
	b = append(b, make([]byte, 4)...)
	for i := range 4 {
		b = append(b, byte(crc.Sum(b[:28])>>(8*i)))
	}
	return b
}

// P11.2: what is no header, and in which order it is told.
func TestRead(t *testing.T) {
	whole, _ := slots.Header(headerOf(3, 4, "body"))
	for n := range 32 {
		if h, err := slots.Read(whole[:n]); h != (api.Header{}) || err != api.ErrShort {
			t.Errorf("%d bytes: %v, %d", n, h, err)
		}
		for bit := range 8 {
			b := bytes.Clone(whole)
			b[n] ^= 1 << bit
			if h, err := slots.Read(b); h != (api.Header{}) || err != api.ErrSum {
				t.Errorf("the bit %d of the byte %d turned: %v, %d", bit, n, h, err)
			}
		}
	}
	for what, c := range map[string]struct {
		b    []byte
		want api.Errno
	}{
		"nothing":                      {nil, api.ErrShort},
		"31 bytes that begin wrong":    {make([]byte, 31), api.ErrShort},
		"0":                            {make([]byte, 32), api.ErrSum},
		"another begin, with its sum":  {sealed("GANg", 1, 0), api.ErrSum},
		"a first letter":               {sealed("gANG", 1, 0), api.ErrSum},
		"another begin, generation 0":  {sealed("gang", 0, 0), api.ErrSum},
		"another last byte of the sum": {append(sealed("GANG", 1, 0)[:31], 1), api.ErrSum},
		"generation 0":                 {sealed("GANG", 0, 0), api.ErrArg},
		"a length one past the limit":  {sealed("GANG", 1, 1<<26+1), api.ErrArg},
		"the greatest of four bytes":   {sealed("GANG", 1, math.MaxUint32), api.ErrArg},
		"generation 0, and others":     {append(sealed("GANG", 0, 0), 1), api.ErrArg},
		"a length at the limit":        {sealed("GANG", 1, 1<<26), api.OK},
		"a length of 0":                {sealed("GANG", 1, 0), api.OK},
		"a length, others behind":      {append(sealed("GANG", 9, 7), 'G', 'A'), api.OK},
		"the last generation":          {sealed("GANG", math.MaxUint64, 5), api.OK},
		"a length of 2^31":             {sealed("GANG", 1, 1<<31), api.ErrArg},
	} {
		if h, err := slots.Read(c.b); err != c.want || (err != api.OK && h != (api.Header{})) {
			t.Errorf("%s: %v, %d, want %d", what, h, err, c.want)
		}
	}
}

// P11.3: which of the two is found, and how many operations it takes.
func TestLoad(t *testing.T) {
	type laid struct {
		h    api.Header
		body string
	}
	long := string(bytes.Repeat([]byte("x"), 128))
	whole := func(generation uint64, body string) *laid { return &laid{headerOf(generation, 6, body), body} }
	spoilt := func(generation uint64, body string) *laid {
		l := whole(generation, body)
		l.h.Sum++
		return l
	}
	tooLong := &laid{api.Header{Generation: 99, Length: 129}, ""}
	for what, c := range map[string]struct {
		a, b           *laid
		at, operations int
	}{
		"none":                         {nil, nil, -1, 2},
		"a alone":                      {whole(3, "abc"), nil, 0, 3},
		"b alone":                      {nil, whole(3, "abc"), 1, 3},
		"b alone, of no bytes":         {nil, whole(3, ""), 1, 2},
		"a is newer":                   {whole(3, "abc"), whole(2, "de"), 0, 3},
		"b is newer":                   {whole(3, "abc"), whole(4, long), 1, 4},
		"far apart":                    {whole(1<<63, "abc"), whole(1<<63-1, "de"), 0, 3},
		"the last generation":          {whole(1, "abc"), whole(math.MaxUint64, "de"), 1, 3},
		"like ones":                    {whole(3, "abc"), whole(3, "de"), 0, 3},
		"like ones, a is spoilt":       {spoilt(3, "abc"), whole(3, "de"), 1, 4},
		"a is newer and spoilt":        {spoilt(4, long), whole(3, "de"), 1, 5},
		"b is newer and spoilt":        {whole(3, "de"), spoilt(4, "abc"), 0, 4},
		"b is newer, no bytes, spoilt": {whole(3, "de"), spoilt(4, ""), 0, 3},
		"b is older and spoilt":        {whole(4, "de"), spoilt(3, "abc"), 0, 3},
		"both are spoilt":              {spoilt(4, "de"), spoilt(3, "abc"), -1, 4},
		"a alone, spoilt":              {spoilt(4, "de"), nil, -1, 3},
		"a is too long":                {tooLong, whole(3, "abc"), 1, 3},
		"b is too long":                {whole(3, "abc"), tooLong, 0, 3},
		"both are too long":            {tooLong, tooLong, -1, 2},
		"b is too long, a is spoilt":   {spoilt(3, "abc"), tooLong, -1, 3},
	} {
		d := device(t, 6, 64)
		pair := []*region.Region{of(t, d, 0, 3), of(t, d, 3, 3)}
		want := laid{}
		for k, l := range []*laid{c.a, c.b} {
			if l != nil {
				lay(t, pair[k], l.h, l.body)
			}
			if k == c.at {
				want = *l
			}
		}
		s := slotsOf(t, pair[0], pair[1])
		wantLoad(t, what, d, s, want.h, want.body, c.at, c.operations)
		for n := range c.operations { // cut off at each of them
			cut := d.Copy()
			was := cut.Count()
			cut.Arm(n)
			wantNoLoad(t, what, over(t, cut), api.ErrDown)
			wantCount(t, what+", cut off", cut, was+n)
		}
	}
}

// P11.3, P11.4: the reads are of a's header, b's header, the newer one's body, in this order.
func TestOrderOfReads(t *testing.T) {
	a, b := device(t, 3, 64), device(t, 3, 64)
	s := slotsOf(t, of(t, a, 0, 3), of(t, b, 0, 3))
	wantSave(t, "into a", s, "abc", 1, headerOf(1, 1, "abc"))
	wantSave(t, "into b", s, "de", 2, headerOf(2, 2, "de"))
	// a: a header, 5 of the Save, then a header and a body; b: two headers, 5 of the Save
	if a.Count() != 1+5+2 || b.Count() != 1+1+5 {
		t.Errorf("%d and %d operations", a.Count(), b.Count())
	}
	b.Arm(0)
	was := a.Count()
	wantNoLoad(t, "b's header can't be read", s, api.ErrDown)
	wantCount(t, "a's header was read ahead of b's", a, was+1)
	b.Restart(nil)
	b.Arm(1)
	was = a.Count()
	wantNoLoad(t, "b's body can't be read", s, api.ErrDown)
	wantCount(t, "of a the header was read alone", a, was+1)
	b.Restart(nil)
	a.Arm(1)
	wantLoad(t, "a's body isn't read", b, s, headerOf(2, 2, "de"), "de", 1, 2)
	a.Arm(0)
	was = b.Count()
	wantNoLoad(t, "a's header can't be read", s, api.ErrDown)
	wantCount(t, "of b nothing was read", b, was)
	wantNoSave(t, "a is down", s, "x", api.ErrDown)
	wantCount(t, "of b nothing was read", b, was)
}

// P11.4: what a Save writes: the body at the room's begin, the header sector whole, and nothing else.
func TestWhatIsWritten(t *testing.T) {
	u, _ := disk.Of(slices.Repeat([][]byte{bytes.Repeat([]byte{0xEE}, 64)}, 8))
	d, _ := power.New(u)
	s := slotsOf(t, of(t, d, 1, 3), of(t, d, 4, 3))
	image := func() []byte { return bytes.Join(d.Image(), nil) }
	want := image()
	expect := func(what string, sector int, h api.Header, body string) {
		t.Helper()
		b, _ := slots.Header(h)
		copy(want[64*sector:], append(b, make([]byte, 32)...))
		copy(want[64*sector+64:], body)
		if !bytes.Equal(image(), want) {
			t.Errorf("%s: the device has %v, want %v", what, image(), want)
		}
	}
	wantSave(t, "into a", s, "abc", 7, headerOf(1, 7, "abc"))
	expect("into a", 1, headerOf(1, 7, "abc"), "abc")
	long := string(bytes.Repeat([]byte("0123456789"), 7))
	wantSave(t, "into b", s, long, 8, headerOf(2, 8, long))
	expect("into b", 4, headerOf(2, 8, long), long)
	wantSave(t, "into a again", s, "Z", 9, headerOf(3, 9, "Z"))
	expect("into a again", 1, headerOf(3, 9, "Z"), "Z")
	wantSave(t, "nothing into b", s, "", math.MaxUint64, headerOf(4, math.MaxUint64, ""))
	expect("nothing into b", 4, headerOf(4, math.MaxUint64, ""), "")
}

// P11.4: which operations a Save makes behind those of Load.
func TestSaveOperations(t *testing.T) {
	for _, c := range []struct{ body, operations int }{
		{0, 3},   // sync, header, sync
		{1, 5},   // read, write, sync, header, sync
		{63, 5},  // as above
		{64, 4},  // a sector that is told whole isn't read
		{65, 6},  // write, read, write, sync, header, sync
		{127, 6}, // as above
		{128, 5}, // both whole
	} {
		d, s := made(t)
		wantSave(t, "into a", s, string(make([]byte, c.body)), 1, headerOf(1, 1, string(make([]byte, c.body))))
		wantCount(t, "into a", d, 2+c.operations)
		for n := range 2 + c.operations {
			d, s := made(t)
			d.Arm(n)
			wantNoSave(t, "cut off", s, string(make([]byte, c.body)), api.ErrDown)
			wantCount(t, "cut off", d, n)
		}
	}
}

// P11.4: the last generation, of what Load finds alone.
func TestLastGeneration(t *testing.T) {
	d := device(t, 6, 64)
	a, b := of(t, d, 0, 3), of(t, d, 3, 3)
	s := slotsOf(t, a, b)
	lay(t, b, headerOf(math.MaxUint64-1, 2, "but one"), "but one")
	wantSave(t, "the last one", s, "last", 3, headerOf(math.MaxUint64, 3, "last"))
	wantLoad(t, "the last one", d, s, headerOf(math.MaxUint64, 3, "last"), "last", 0, 3)
	before := d.Copy()
	wantNoSave(t, "no generation is left", s, "x", api.ErrFull)
	wantNoSave(t, "no generation is left, and the body is long", s, string(make([]byte, 129)), api.ErrLong)
	if !slices.EqualFunc(d.Image(), before.Image(), bytes.Equal) || d.Waiting() != 0 {
		t.Error("what is refused is written")
	}
	cut := d.Copy()
	cut.Arm(2)
	wantNoSave(t, "Load is cut off", over(t, cut), "x", api.ErrDown)
	wantErr(t, "Write", a.Write(64, []byte("LAST")), api.OK) // it holds no body any more
	wantSave(t, "the last one again", s, "again", 4, headerOf(math.MaxUint64, 4, "again"))
	wantLoad(t, "the last one again", d, s, headerOf(math.MaxUint64, 4, "again"), "again", 0, 3)
}

// P11.4: where nothing is found the first generation goes to a, also over what lies there.
func TestSaveWhereNoneIsFound(t *testing.T) {
	d := device(t, 6, 64)
	a, b := of(t, d, 0, 3), of(t, d, 3, 3)
	s := slotsOf(t, a, b)
	spoilt := headerOf(9, 1, "spoilt")
	lay(t, a, spoilt, "SPOILT")
	lay(t, b, headerOf(8, 1, "also"), "ALSO")
	wantLoad(t, "both are spoilt", d, s, api.Header{}, "", -1, 4)
	wantSave(t, "into a", s, "new", 2, headerOf(1, 2, "new"))
	// b's header tells of a greater generation, whose body isn't there: it is read first, and left
	wantLoad(t, "into a", d, s, headerOf(1, 2, "new"), "new", 0, 4)
	wantSave(t, "into b", s, "newer", 3, headerOf(2, 3, "newer"))
	wantLoad(t, "into b", d, s, headerOf(2, 3, "newer"), "newer", 1, 3)
}

// P11.3, P11.4, P11.1, R4: what is no slots.
func TestNone(t *testing.T) {
	for what, s := range map[string]*slots.Slots{"nil": nil, "zero": {}} {
		wantNoLoad(t, what, s, api.ErrNil)
		wantNoSave(t, what, s, "", api.ErrNil)
		wantNoSave(t, what, s, "abc", api.ErrNil)
		if s.Bytes() != 0 {
			t.Errorf("%s: %d bytes", what, s.Bytes())
		}
	}
}

// R3: arguments are not changed and not kept, nor the room behind them; what is answered is new memory.
func TestNothingShared(t *testing.T) {
	d, s := made(t)
	room := []byte("gangwayroom")
	h, err := s.Save(room[:7], 1)
	wantErr(t, "Save", err, api.OK)
	if string(room) != "gangwayroom" {
		t.Errorf("Save changes what it is handed: %q", room)
	}
	clear(room)
	_, body, _, _ := s.Load()
	clear(body)
	_ = append(body, 1, 2, 3)
	wantLoad(t, "what was handed in and answered is changed", d, s, h, "gangway", 0, 3)
	b, _ := slots.Header(h)
	again := bytes.Clone(b)
	if g, err := slots.Read(again[:32]); g != h || err != api.OK || !bytes.Equal(again, b) {
		t.Error("Read changes what it is handed")
	}
	clear(again)
	if c, _ := slots.Header(h); !bytes.Equal(c, b) {
		t.Error("Header's answers share memory")
	}
}

// P11.4, R5: slots use their regions and keep nothing beside: what others write there is found.
func TestUsesItsRegions(t *testing.T) {
	d, s := made(t)
	twin := over(t, d)
	wantSave(t, "one", s, "one", 1, headerOf(1, 1, "one"))
	wantSave(t, "by others", twin, "two", 2, headerOf(2, 2, "two"))
	wantLoad(t, "what others saved", d, s, headerOf(2, 2, "two"), "two", 1, 3)
	wantErr(t, "Write", d.Write(3, make([]byte, 64)), api.OK)
	wantLoad(t, "what others wrote, and waits", d, s, headerOf(1, 1, "one"), "one", 0, 3)
	d.Restart(nil)
	wantLoad(t, "what others wrote is lost", d, s, headerOf(2, 2, "two"), "two", 1, 3)
	wantErr(t, "Write", d.Write(0, bytes.Repeat([]byte{5}, 64)), api.OK)
	wantSave(t, "a sync is the device's", s, "three", 3, headerOf(3, 3, "three"))
	if d.Waiting() != 0 {
		t.Error("something waits:", d.Waiting())
	}
}

// P11.4: both slots may be one region; then each Save goes there.
func TestOneRegionTwice(t *testing.T) {
	d := device(t, 3, 64)
	r := of(t, d, 0, 3)
	s := slotsOf(t, r, r)
	for k := range 4 {
		n := uint64(k + 1)
		wantSave(t, "one region", s, "abc", n, headerOf(n, n, "abc"))
		wantLoad(t, "one region", d, s, headerOf(n, n, "abc"), "abc", 0, 3)
	}
}

// P11.1, P11.4: slots as long as a disk lets them be.
func TestLimits(t *testing.T) {
	d := device(t, 16384, 4096)
	s := slotsOf(t, of(t, d, 0, 8192), of(t, d, 8192, 8192))
	const room = 8191 * 4096
	if s.Bytes() != room {
		t.Errorf("the room has %d bytes", s.Bytes())
	}
	body := bytes.Repeat([]byte("gangway."), room/8)
	for k := range 2 {
		want := api.Header{Generation: uint64(k + 1), Covered: 5, Length: room, Sum: crc.Sum(body)}
		if h, err := s.Save(body, 5); h != want || err != api.OK {
			t.Errorf("Save: %v, %d, want %v", h, err, want)
		}
		if h, b, at, err := s.Load(); h != want || !bytes.Equal(b, body) || at != k || err != api.OK {
			t.Errorf("Load: %v, %d bytes, %d, %d", h, len(b), at, err)
		}
	}
	if h, err := s.Save(append(body, 1), 5); h != (api.Header{}) || err != api.ErrLong {
		t.Errorf("one byte more: %v, %d", h, err)
	}
}

// R7: calls on slots over different devices may be made at one time.
func TestAtOneTime(t *testing.T) {
	first, _ := made(t)
	var wait sync.WaitGroup
	for k := range 8 {
		d := first.Copy()
		s := over(t, d)
		wait.Go(func() {
			for n := range 10 {
				body := string([]byte{byte(k), byte(n)})
				h := headerOf(uint64(n+1), uint64(k), body)
				wantSave(t, "at one time", s, body, uint64(k), h)
				wantLoad(t, "at one time", d, s, h, body, n%2, 3)
			}
		})
	}
	wait.Wait()
	wantCount(t, "the first one", first, 0)
}

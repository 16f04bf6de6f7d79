package journal_test

import (
	"bytes"
	"math"
	"math/rand/v2"
	"slices"
	"sync"
	"testing"

	"catamaran/api"
	"catamaran/disk"
	"catamaran/journal"
)

// The chapter's examples.
func TestExamples(t *testing.T) {
	want := append([]byte{0, 0, 0, 0, 0, 0, 1, 2, 1, 3, 2, 0, 'a', 'b'}, make([]byte, 18)...)
	holdText(t, 258, 3, []byte("ab"), want, api.OK)
	c, d := sample(), bare(sample())
	for _, gen := range gens() {
		holdScan(t, c, d, 0, gen, nil, api.OK)
		holdScan(t, c, d, 1, gen, nil, api.OK)
	}
	holdText(t, 258, 3, make([]byte, 21), nil, api.ErrMany)
	holdPlan(t, c, d, 0, 258, 3, make([]byte, 21), api.Pend{}, api.ErrMany)
}

// Writes, byte by byte, and where they go.
func TestExampleBytes(t *testing.T) {
	c, d := sample(), bare(sample())
	three := append([]byte{0, 0, 0, 0, 0, 0, 1, 2, 1, 3, 2, 0, 'a', 'b'}, make([]byte, 18)...)
	holdPlan(t, c, d, 0, 258, 3, []byte("ab"), api.Pend{At: 5, Bytes: three}, api.OK)
	holdPlan(t, c, d, 1, 258, 3, []byte("ab"), api.Pend{At: 9, Bytes: three}, api.OK)
	first := []byte{1, 2, 3, 4, 5, 6, 7, 8, 1, 0, 20, 0, 11, 12, 13, 14, 15, 16, 17, 18, 19, 20, 21, 22, 23, 24, 25, 26, 27, 28, 29, 30}
	holdPlan(t, c, d, 0, 0x0102030405060708, 0, first[12:], api.Pend{At: 2, Bytes: first}, api.OK)
	holdPlan(t, c, d, 1, 0x0102030405060708, 0, first[12:], api.Pend{At: 6, Bytes: first}, api.OK)
	second := append([]byte{1, 2, 3, 4, 5, 6, 7, 8, 1, 1, 1, 0, 'x'}, make([]byte, 19)...)
	d = waiting(d, api.Pend{At: 6, Bytes: first}, api.Pend{At: 7, Bytes: second})
	holdScan(t, c, d, 1, 0x0102030405060708, [][]byte{first[12:], []byte("x")}, api.OK)
	holdScan(t, c, d, 0, 0x0102030405060708, nil, api.OK)
}

// The numbers of the limits and of the errors, which the document names.
func TestNumbers(t *testing.T) {
	if api.NoteBytes != long || api.SectorBytes != size {
		t.Errorf("a note has %d bytes, a sector %d", api.NoteBytes, api.SectorBytes)
	}
	for e, want := range map[api.Errno]int{api.OK: 0, api.ErrArg: 2, api.ErrMany: 4, api.ErrBad: 8, api.ErrFull: 9} {
		if int(e) != want {
			t.Errorf("the error %d, want %d", e, want)
		}
	}
}

// P10.1: notes of each length, and those that are none.
func TestTextLength(t *testing.T) {
	for _, n := range []int{0, 3, 255} {
		for many := range 300 {
			b, want, wantE := letters(many, 1), []byte(nil), api.ErrMany
			if many >= 1 && many <= 20 {
				want, wantE = text(5, n, b), api.OK
			}
			holdText(t, 5, n, b, want, wantE)
		}
		holdText(t, 5, n, nil, nil, api.ErrMany)
		for _, many := range []int{512, 513, 4096, 1 << 16, 1<<16 + 2} {
			holdText(t, 5, n, make([]byte, many), nil, api.ErrMany)
		}
		holdText(t, 5, n, make([]byte, 20), text(5, n, make([]byte, 20)), api.OK)
		holdText(t, 5, n, bytes.Repeat([]byte{255}, 20), text(5, n, bytes.Repeat([]byte{255}, 20)), api.OK)
		holdText(t, 5, n, []byte{0}, text(5, n, []byte{0}), api.OK)
	}
}

// P10.1: numbers from 0 to 255, and those beside; of a note that is none the length is told first.
func TestTextNumber(t *testing.T) {
	for _, b := range [][]byte{{0}, []byte("ab"), letters(20, 2)} {
		for n := range 256 {
			holdText(t, 258, n, b, text(258, n, b), api.OK)
		}
		for _, n := range append(far(), -1, -2) {
			holdText(t, 258, n, b, nil, api.ErrArg)
		}
	}
	for _, n := range append(far(), -1, 0, 3, 255) {
		holdText(t, 258, n, nil, nil, api.ErrMany)
		holdText(t, 258, n, letters(21, 2), nil, api.ErrMany)
	}
}

// P10.1: each bit of the generation, the number and the bytes has its place.
func TestTextBits(t *testing.T) {
	blank := text(0, 0, make([]byte, long))
	hold := func(gen uint64, n int, b []byte, at int, bit byte) {
		t.Helper()
		want := bytes.Clone(blank)
		want[at] |= bit
		holdText(t, gen, n, b, want, api.OK)
	}
	none := make([]byte, long)
	for i := range 64 {
		hold(1<<i, 0, none, 7-i/8, 1<<(i%8))
	}
	for i := range 8 {
		hold(0, 1<<i, none, 9, 1<<i)
	}
	for i := range 8 * long {
		b := make([]byte, long)
		b[i/8] = 1 << (i % 8)
		hold(0, 0, b, head+i/8, 1<<(i%8))
	}
	if !bytes.Equal(blank[:head], []byte{0, 0, 0, 0, 0, 0, 0, 0, 1, 0, 20, 0}) {
		t.Errorf("the row %v", blank[:head])
	}
}

// P10.1: so many notes of an area, from none to all, of each generation at the edges; the other area has others.
func TestScan(t *testing.T) {
	for _, c := range configs() {
		for _, gen := range gens() {
			for area := range 2 {
				for _, many := range []int{0, 1, 2, c.Area / 2, c.Area - 1, c.Area} {
					d := noted(c, filled(c), area, gen, 0, many)
					holdScan(t, c, d, area, gen, notesOf(gen, many), api.OK)
					holdScan(t, c, d, 1-area, gen, nil, api.OK)
					d = noted(c, d, 1-area, gen+3, 0, c.Area-many)
					holdScan(t, c, d, area, gen, notesOf(gen, many), api.OK)
					holdScan(t, c, d, area, gen+3, nil, api.OK)
					holdScan(t, c, d, 1-area, gen+3, notesOf(gen+3, c.Area-many), api.OK)
					holdScan(t, c, d, 1-area, gen, nil, api.OK)
				}
			}
		}
	}
}

// P10.1: both areas are full of notes of one generation: neither has more than its own.
func TestScanBothFull(t *testing.T) {
	for _, c := range configs() {
		d := noted(c, filled(c), 0, 5, 0, c.Area)
		for n := range c.Area {
			d.Sectors[first(c, 1)+n].Bytes = text(5, n, letters(3, n))
		}
		l := mustScan(t, c, d, 1, 5)
		if len(l) != c.Area || !bytes.Equal(l[c.Area-1], letters(3, c.Area-1)) {
			t.Errorf("the notes of area 1 of %v: %v", c, l)
		}
		holdScan(t, c, d, 0, 5, notesOf(5, c.Area), api.OK)
		d = noted(c, filled(c), 0, 5, 0, c.Area)
		if c.Area < 32 { // what goes on in area 1, as if it were one with area 0
			d.Sectors[first(c, 1)].Bytes = text(5, c.Area, []byte("x"))
			holdScan(t, c, d, 0, 5, notesOf(5, c.Area), api.OK)
			holdScan(t, c, d, 1, 5, nil, api.OK)
		}
		d.Sectors[first(c, 2)].Bytes = text(5, c.Area, []byte("x")) // and in the sector behind both
		holdScan(t, c, noted(c, d, 1, 5, 0, c.Area), 1, 5, notesOf(5, c.Area), api.OK)
	}
}

// wrongTexts are sectors that are no text of the note n of a generation, or as good as one; a nil one is Bad.
func wrongTexts(gen uint64, n int) map[string][]byte {
	b := noteOf(gen, n)
	turned := func(at int, v byte) []byte {
		t := text(gen, n, b)
		t[at] = v
		return t
	}
	none := func(told byte) []byte {
		t := text(gen, n, make([]byte, long))
		t[10] = told
		return t
	}
	backwards := turned(0, byte(n+7))
	slices.Reverse(backwards[:8])
	return map[string][]byte{
		"Bad":                   nil,
		"noughts":               make([]byte, size),
		"255":                   bytes.Repeat([]byte{255}, size),
		"one generation less":   text(gen-1, n, b),
		"one generation more":   text(gen+1, n, b),
		"a far generation":      text(gen+1<<32, n, b),
		"the farthest one":      text(gen+1<<63, n, b),
		"a generation turned":   backwards,
		"the number below":      text(gen, n+255, b),
		"the number above":      text(gen, n+1, b),
		"the number, and 128":   text(gen, n+128, b),
		"number 255":            text(gen, 255, b),
		"mark 0":                turned(8, 0),
		"mark 2":                turned(8, 2),
		"mark 255":              turned(8, 255),
		"spare 1":               turned(11, 1),
		"spare 255":             turned(11, 255),
		"0 bytes":               turned(10, 0),
		"0 bytes, of noughts":   none(0),
		"21 bytes":              turned(10, 21),
		"52 bytes":              turned(10, 20+32),
		"255 bytes":             turned(10, 255),
		"148 bytes":             turned(10, 20+128),
		"a byte told less":      turned(10, byte(len(b)-1)),
		"21 bytes, of noughts":  none(21),
		"32 bytes, of noughts":  none(32),
		"255 bytes, of noughts": none(255),
	}
}

func laid(d api.Disk, at int, t []byte) api.Disk {
	d = disk.Twin(d)
	d.Sectors[at] = badSector()
	if t != nil {
		d.Sectors[at] = api.Sector{Bytes: bytes.Clone(t)}
	}
	return d
}

// P10.1: the notes end at the first sector that is none, whatever stands behind it.
func TestScanEnds(t *testing.T) {
	for _, c := range []api.Config{sample(), config(1, 1, 3), config(3, 16, 32)} {
		for _, gen := range []uint64{0, 1, 5, math.MaxUint64} {
			for area := range 2 {
				holdEnds(t, c, area, gen)
			}
		}
	}
}

func holdEnds(t *testing.T, c api.Config, area int, gen uint64) {
	t.Helper()
	full := noted(c, filled(c), area, gen, 0, c.Area)
	holdScan(t, c, full, area, gen, notesOf(gen, c.Area), api.OK)
	for n := range c.Area {
		for name, x := range wrongTexts(gen, n) {
			holdScan(t, c, laid(full, first(c, area)+n, x), area, gen, notesOf(gen, n), api.OK)
			if t.Failed() {
				t.Fatalf("generation %d, number %d: %s", gen, n, name)
			}
		}
	}
}

// P10.1: each byte of a text, as each byte that there is: another one of the bytes is another note, any other one is none.
func TestScanBytes(t *testing.T) {
	c := sample()
	for _, many := range []int{1, 2, 19, 20} {
		b := letters(many, 4)
		full := noted(c, filled(c), 1, 5, 0, c.Area)
		for at := range size {
			for v := range 256 {
				x := text(5, 2, b)
				was := x[at]
				x[at] = byte(v)
				want := notesOf(5, 2)
				switch {
				case byte(v) == was, at >= head && at < head+many:
					want = append(want, x[head:head+many], noteOf(5, 3))
				case at == 10 && v > many && v <= long: // noughts behind the bytes, which are told as theirs
					want = append(want, append(bytes.Clone(b), make([]byte, v-many)...), noteOf(5, 3))
				}
				holdScan(t, c, laid(full, first(c, 1)+2, x), 1, 5, want, api.OK)
			}
			if t.Failed() {
				t.Fatalf("byte %d of a note of %d", at, many)
			}
		}
	}
}

// P10.1: each two bits of a text that are turned: what is read is by the words.
func TestScanBits(t *testing.T) {
	c := sample()
	base := noted(c, filled(c), 0, 5, 0, 2)
	whole := text(5, 1, []byte{1, 0})
	for bit := range 8 * size {
		for other := bit; other < 8*size; other += 3 {
			x := bytes.Clone(whole)
			x[bit/8] ^= 1 << (bit % 8)
			if other > bit {
				x[other/8] ^= 1 << (other % 8)
			}
			d := base
			d.Sectors = slices.Clone(base.Sectors)
			d.Sectors[first(c, 0)+1].Bytes = x
			want := notesOf(5, 1)
			if b := noteIn(x, 5, 1); b != nil {
				want = append(want, b)
			}
			holdScan(t, c, d, 0, 5, want, api.OK)
		}
		if t.Failed() {
			t.Fatalf("bit %d", bit)
		}
	}
}

// P10.1: a note of noughts alone, of each length, is one.
func TestScanNoughts(t *testing.T) {
	c := sample()
	for many := 1; many <= long; many++ {
		for _, gen := range gens() {
			b := make([]byte, many)
			d := laid(filled(c), first(c, 1), text(gen, 0, b))
			holdScan(t, c, d, 1, gen, [][]byte{b}, api.OK)
		}
	}
}

// P10.1: sectors count as they are read: by the last write in the cache, else by themselves.
func TestAsRead(t *testing.T) {
	c := sample()
	for area := range 2 {
		full := noted(c, filled(c), area, 5, 0, c.Area)
		for n := range c.Area {
			at := first(c, area) + n
			other := api.Pend{At: at, Bytes: text(5, n, []byte("other"))}
			want := notesOf(5, c.Area)
			want[n] = []byte("other")
			for name, x := range wrongTexts(5, n) {
				d := laid(full, at, x)
				holdScan(t, c, waiting(d, other), area, 5, want, api.OK)
				holdScan(t, c, crowded(waiting(crowded(d, 30), other), room), area, 5, want, api.OK)
				if x == nil {
					continue
				}
				holdScan(t, c, waiting(full, api.Pend{At: at, Bytes: x}, other), area, 5, want, api.OK)
				holdScan(t, c, waiting(full, other, api.Pend{At: at, Bytes: x}), area, 5, notesOf(5, n), api.OK)
				holdScan(t, c, waiting(full, api.Pend{At: at, Bytes: x}), area, 5, notesOf(5, n), api.OK)
				if t.Failed() {
					t.Fatalf("number %d: %s", n, name)
				}
			}
		}
		d := noted(c, filled(c), area, 5, 0, 1)
		for n := c.Area - 1; n > 0; n-- { // all of them but the first one in the cache
			holdScan(t, c, d, area, 5, notesOf(5, 1), api.OK)
			d = waiting(d, api.Pend{At: first(c, area) + n, Bytes: text(5, n, noteOf(5, n))})
		}
		holdScan(t, c, d, area, 5, notesOf(5, c.Area), api.OK)
	}
}

// P10.1, P10.2: areas but 0 and 1, whatever the others are.
func TestArea(t *testing.T) {
	for _, c := range configs() {
		d := noted(c, noted(c, filled(c), 0, 5, 0, c.Area), 1, 5, 0, c.Area)
		for _, area := range wrongAreas() {
			for _, d := range []api.Disk{d, bare(c), crowded(d, room)} {
				holdScan(t, c, d, area, 5, nil, api.ErrArg)
				for _, n := range []int{0, 1, c.Area - 1, c.Area, -1, math.MaxInt, math.MinInt} {
					holdPlan(t, c, d, area, 5, n, []byte("ab"), api.Pend{}, api.ErrArg)
					holdPlan(t, c, d, area, 5, n, nil, api.Pend{}, api.ErrArg)
				}
			}
		}
		for area := range 2 {
			holdScan(t, c, d, area, 5, notesOf(5, c.Area), api.OK)
			mustPlan(t, c, d, area, 5, 0, []byte("ab"))
		}
	}
}

// P10.2: each number of each area of each config has its sector; those from Area on find it full.
func TestPlan(t *testing.T) {
	for _, c := range configs() {
		for area := range 2 {
			d := noted(c, filled(c), area, 5, 0, c.Area/2)
			for _, b := range [][]byte{{0}, []byte("ab"), letters(20, 2)} {
				for n := range c.Area {
					for _, gen := range []uint64{0, 1, 5, 1 << 32, math.MaxUint64} {
						want := api.Pend{At: 2 + area*c.Area + n, Bytes: text(gen, n, b)}
						holdPlan(t, c, d, area, gen, n, b, want, api.OK)
					}
				}
				for _, n := range []int{c.Area, c.Area + 1, 2 * c.Area, 33, 255, 256, 65536, 1 << 32, 1<<32 + 1, math.MaxInt - 1, math.MaxInt} {
					holdPlan(t, c, d, area, 5, n, b, api.Pend{}, api.ErrFull)
				}
				for _, n := range []int{-1, -2, -c.Area, -255, -256, -1 << 32, math.MinInt + 1, math.MinInt} {
					holdPlan(t, c, d, area, 5, n, b, api.Pend{}, api.ErrArg)
				}
			}
		}
	}
}

// P10.2: but 1 to 20 bytes are no note; that is told behind a number that is not there.
func TestPlanLength(t *testing.T) {
	c := sample()
	for area := range 2 {
		d := noted(c, filled(c), area, 5, 0, 1)
		for many := range 300 {
			b, n := letters(many, 3), many%c.Area
			if many >= 1 && many <= 20 {
				holdPlan(t, c, d, area, 5, n, b, api.Pend{At: first(c, area) + n, Bytes: text(5, n, b)}, api.OK)
				continue
			}
			holdPlan(t, c, d, area, 5, n, b, api.Pend{}, api.ErrMany)
			holdPlan(t, c, d, area, 5, -1, b, api.Pend{}, api.ErrArg)
			holdPlan(t, c, d, area, 5, c.Area, b, api.Pend{}, api.ErrFull)
			holdPlan(t, c, d, area, 5, 256, b, api.Pend{}, api.ErrFull)
		}
		holdPlan(t, c, d, area, 5, 0, nil, api.Pend{}, api.ErrMany)
	}
}

// P10.2: whatever stands in the area, or waits, and whether there is room in the cache, the write is the same.
func TestPlanWhateverStands(t *testing.T) {
	c := sample()
	for area := range 2 {
		for n := range c.Area {
			at := first(c, area) + n
			want := api.Pend{At: at, Bytes: text(5, n, []byte("ab"))}
			for _, x := range wrongTexts(5, n) {
				d := laid(noted(c, filled(c), area, 5, 0, c.Area), at, x)
				for _, many := range []int{0, 1, 63, 64} {
					holdPlan(t, c, crowded(d, many), area, 5, n, []byte("ab"), want, api.OK)
				}
				d = waiting(d, want, api.Pend{At: at, Bytes: make([]byte, size)})
				holdPlan(t, c, d, area, 5, n, []byte("ab"), want, api.OK)
			}
			d := filled(c)
			for i := range d.Sectors {
				d.Sectors[i] = badSector()
			}
			holdPlan(t, c, d, area, 5, n, []byte("ab"), want, api.OK)
			holdScan(t, c, d, area, 5, nil, api.OK)
		}
	}
}

// P10.1, P10.2: a disk that has as many sectors as the config's, and those that have one less, one more, or far too few or many.
func TestSectors(t *testing.T) {
	for _, c := range configs() {
		full := noted(c, filled(c), 0, 5, 0, c.Area)
		holdScan(t, c, full, 0, 5, notesOf(5, c.Area), api.OK)
		for _, n := range []int{0, 1, 2, 2 + c.Area, 2 + 2*c.Area, many(c) - 1, many(c) + 1, many(c) + 2, 1024} {
			d := disk.Twin(full)
			d.Sectors = d.Sectors[:min(n, len(d.Sectors))]
			for len(d.Sectors) < n {
				d.Sectors = append(d.Sectors, api.Sector{Bytes: make([]byte, size)})
			}
			refuseDisk(t, c, d)
		}
	}
}

// P10.1, P10.2: a config and a disk of another one: what counts is how many sectors it has.
func TestOtherConfig(t *testing.T) {
	for _, a := range configs() {
		for _, b := range configs() {
			d := noted(b, noted(b, filled(b), 0, 5, 0, b.Area), 1, 5, 0, b.Area)
			holdAll(t, a, d, 0, 5, 1, []byte("ab"))
			holdAll(t, a, d, 1, 5, a.Area-1, []byte("ab"))
			if many(a) != many(b) {
				refuseDisk(t, a, d)
			}
		}
	}
}

// P10.1, P10.2: configs that may not be, each for one field's sake, with disks of sizes that would fit.
func TestWrongConfig(t *testing.T) {
	fields := map[string]func(c *api.Config) *int{
		"Pairs":  func(c *api.Config) *int { return &c.Pairs },
		"Tracks": func(c *api.Config) *int { return &c.Tracks },
		"Area":   func(c *api.Config) *int { return &c.Area },
		"Most":   func(c *api.Config) *int { return &c.Most },
		"Window": func(c *api.Config) *int { return &c.Window },
		"Quiet":  func(c *api.Config) *int { return &c.Quiet },
	}
	beside := map[string][]int{"Pairs": {0, 4, 1}, "Tracks": {0, 17}, "Area": {3, 33}, "Most": {0, 3}, "Window": {0, 5}, "Quiet": {3, 65}}
	for name, field := range fields {
		for _, wrong := range append(beside[name], math.MaxInt, math.MinInt, -1) {
			c := sample()
			*field(&c) = wrong
			refuseDisk(t, c, bare(sample()))
			if fits := many(c); fits > 0 && fits <= 1024 {
				refuseDisk(t, c, bare(c))
			}
			refuseDisk(t, c, api.Disk{})
		}
	}
	refuseDisk(t, api.Config{}, api.Disk{})
	refuseDisk(t, api.Config{}, bare(sample()))
}

// P10.1, P10.2: disks that may not be, for the sake of one thing each.
func TestWrongDisk(t *testing.T) {
	refuse := func(turn func(d *api.Disk)) {
		t.Helper()
		d := noted(sample(), filled(sample()), 0, 5, 0, 4)
		turn(&d)
		refuseDisk(t, sample(), d)
	}
	for _, at := range []int{0, 2, 5, 6, 9, 85} {
		refuse(func(d *api.Disk) { d.Sectors[at].Bytes = make([]byte, size-1) })
		refuse(func(d *api.Disk) { d.Sectors[at].Bytes = make([]byte, size+1) })
		refuse(func(d *api.Disk) { d.Sectors[at].Bytes = nil })
		refuse(func(d *api.Disk) { d.Sectors[at] = api.Sector{Bytes: text(5, 0, []byte("ab")), Bad: true} })
		refuse(func(d *api.Disk) { d.Cache = []api.Pend{{At: at, Bytes: make([]byte, size-1)}} })
		refuse(func(d *api.Disk) { d.Cache = []api.Pend{{At: at}} })
	}
	refuse(func(d *api.Disk) { *d = crowded(*d, room+1) })
	for _, at := range []int{-1, 86, math.MaxInt, math.MinInt} {
		refuse(func(d *api.Disk) { d.Cache = []api.Pend{{At: at, Bytes: make([]byte, size)}} })
	}
	refuse(func(d *api.Disk) { *d = api.Disk{} })
}

// asked is what is asked of the calls.
type asked struct {
	c       api.Config
	d       api.Disk
	area, n int
	b       []byte
}

// fault turns what is asked, so that some calls tell an error, if no other one comes first.
type fault struct {
	e     api.Errno
	calls string // t: Text, s: Scan, p: Plan
	turn  func(a *asked)
}

// faults are in the order in which the chapter names their errors. The number is asked ahead of the note's length by Plan, and behind it by Text: so one that is wrong stands there twice.
func faults() []fault {
	return []fault{
		{api.ErrBad, "sp", func(a *asked) { a.c.Quiet = 3 }},
		{api.ErrBad, "sp", func(a *asked) { a.d.Sectors[5].Bytes = nil }},
		{api.ErrBad, "sp", func(a *asked) { a.d = crowded(a.d, room+1) }},
		{api.ErrBad, "sp", func(a *asked) { a.d.Sectors = append(a.d.Sectors, api.Sector{Bytes: make([]byte, size)}) }},
		{api.ErrArg, "sp", func(a *asked) { a.area = 2 }},
		{api.ErrArg, "p", func(a *asked) { a.n = -1 }},
		{api.ErrMany, "tp", func(a *asked) { a.b = letters(21, 3) }},
		{api.ErrArg, "t", func(a *asked) { a.n = -1 }},
	}
}

// P1, P10.1, P10.2: of several errors the one named first is told, of all of them together.
func TestFirstError(t *testing.T) {
	all := faults()
	for which := range 1 << len(all) {
		if which>>7 != which>>5&1 { // a number is wrong for both of them, or for none
			continue
		}
		a := asked{sample(), noted(sample(), filled(sample()), 0, 5, 0, 2), 0, 1, []byte("ab")}
		told := map[rune]api.Errno{}
		for i, f := range all {
			if which>>i&1 == 0 {
				continue
			}
			f.turn(&a)
			for _, call := range f.calls {
				if told[call] == api.OK {
					told[call] = f.e
				}
			}
		}
		if l, e := journal.Text(5, a.n, a.b); e != told['t'] || e != api.OK && len(l) != 0 {
			t.Errorf("the faults %b: Text: %v, error %d; want %d", which, l, e, told['t'])
		}
		if l, e := journal.Scan(a.c, a.d, a.area, 5); e != told['s'] || e != api.OK && len(l) != 0 {
			t.Errorf("the faults %b: Scan: %v, error %d; want %d", which, l, e, told['s'])
		}
		if p, e := journal.Plan(a.c, a.d, a.area, 5, a.n, a.b); e != told['p'] || e != api.OK && (p.At != 0 || len(p.Bytes) != 0) {
			t.Errorf("the faults %b: Plan: %v, error %d; want %d", which, p, e, told['p'])
		}
		holdAll(t, a.c, a.d, a.area, 5, a.n, a.b)
		a.n = 4 // one for which the area has no room
		holdAll(t, a.c, a.d, a.area, 5, a.n, a.b)
	}
}

const behind = "----"

func roomy(b []byte) []byte { return append(bytes.Clone(b), behind...)[:len(b)] }

// handed is d in other memory, all lists of which have more behind their ends.
func handed(d api.Disk) api.Disk {
	d = disk.Twin(d)
	for i := range d.Sectors {
		d.Sectors[i].Bytes = roomy(d.Sectors[i].Bytes)
	}
	for i := range d.Cache {
		d.Cache[i].Bytes = roomy(d.Cache[i].Bytes)
	}
	d.Sectors = append(d.Sectors, api.Sector{Bytes: roomy(nil)})[:len(d.Sectors)]
	d.Cache = append(d.Cache, api.Pend{At: -7}, api.Pend{At: -7})[:len(d.Cache)]
	return d
}

// isAsHanded tells whether all of d is as handed made it.
func isAsHanded(d, want api.Disk) bool {
	for _, b := range append(partsOf(d), d.Sectors[:len(d.Sectors)+1][len(d.Sectors)].Bytes) {
		if string(b[len(b):len(b)+len(behind)]) != behind {
			return false
		}
	}
	for _, p := range d.Cache[len(d.Cache) : len(d.Cache)+2] {
		if p.At != -7 || p.Bytes != nil {
			return false
		}
	}
	return disk.Same(d, want)
}

func partsOf(d api.Disk) [][]byte {
	var l [][]byte
	for _, s := range d.Sectors {
		l = append(l, s.Bytes)
	}
	for _, p := range d.Cache {
		l = append(l, p.Bytes)
	}
	return l
}

// spoil turns each byte, also those in the capacities.
func spoil(parts ...[]byte) {
	for _, b := range parts {
		b = b[:cap(b)]
		for i := range b {
			b[i] += 99
		}
	}
}

func cloned(l [][]byte) [][]byte {
	var out [][]byte
	for _, b := range l {
		out = append(out, bytes.Clone(b))
	}
	return out
}

// disks are such of the examples' config whose area 0 has notes of the generation 5, some of them in the cache.
func disks() []api.Disk {
	c := sample()
	half := noted(c, filled(c), 0, 5, 0, 2)
	two, three := api.Pend{At: 4, Bytes: text(5, 2, []byte("two"))}, api.Pend{At: 5, Bytes: text(5, 3, letters(20, 9))}
	return []api.Disk{
		filled(c), half, noted(c, filled(c), 0, 5, 0, 4), waiting(half, two), waiting(half, three, two), waiting(filled(c), two, three),
		laid(half, 2, nil), crowded(waiting(half, two, three), room), crowded(half, room),
	}
}

// P10.3: what is handed in is as it was, also behind its end; also where the calls tell an error.
func TestOnlyRead(t *testing.T) {
	c := sample()
	for i, want := range disks() {
		for many := range 24 {
			d, b := handed(want), roomy(letters(many, i))
			for _, n := range []int{0, 3, 4, 255, -1} {
				for _, c := range []api.Config{c, config(1, 1, 3)} {
					journal.Text(5, n, b)
					journal.Scan(c, d, n%3, 5)
					journal.Plan(c, d, 0, 5, n, b)
					journal.Plan(c, d, 2, 5, n, b)
				}
			}
			if !isAsHanded(d, want) || !bytes.Equal(b, letters(many, i)) || string(b[many:many+len(behind)]) != behind {
				t.Errorf("disk %d, %d bytes: what was handed in is another one", i, many)
			}
		}
	}
}

// P10.3: a change of a text changes no other one, nor what was handed in; a change of that changes no text.
func TestTextNewMemory(t *testing.T) {
	for many := 1; many <= long; many++ {
		b := roomy(letters(many, 3))
		want := text(5, 3, letters(many, 3))
		one, _ := journal.Text(5, 3, b)
		two, _ := journal.Text(5, 3, b)
		spoil(one)
		if !bytes.Equal(two, want) || string(b[:many+len(behind)]) != string(letters(many, 3))+behind {
			t.Errorf("a text of %d bytes shares memory", many)
		}
		spoil(b)
		if !bytes.Equal(two, want) {
			t.Errorf("a text of %d bytes shares memory with what was handed in", many)
		}
		holdText(t, 5, 3, letters(many, 3), want, api.OK)
	}
}

// P10.3: the same of notes, also of those of one answer, one by one.
func TestScanNewMemory(t *testing.T) {
	c := sample()
	for i, want := range disks() {
		d := handed(want)
		one, two := mustScan(t, c, d, 0, 5), mustScan(t, c, d, 0, 5)
		kept := cloned(two)
		for n := range one {
			spoil(one[n])
			if n+1 < len(one) && !same(one[n+1:], kept[n+1:]) {
				t.Fatalf("disk %d: the notes share memory", i)
			}
		}
		one = mustScan(t, c, d, 0, 5)
		for n := len(one) - 1; n >= 0; n-- {
			spoil(one[n])
			if !same(one[:n], kept[:n]) {
				t.Fatalf("disk %d: the notes share memory", i)
			}
		}
		clear(one[:cap(one)])
		if !same(two, kept) || !isAsHanded(d, want) {
			t.Fatalf("disk %d: what Scan answers shares memory", i)
		}
		holdScan(t, c, d, 0, 5, kept, api.OK)
		spoil(partsOf(d)...)
		clear(d.Sectors)
		clear(d.Cache[:cap(d.Cache)])
		if !same(two, kept) {
			t.Fatalf("disk %d: what Scan answers shares memory with what was handed in", i)
		}
	}
}

// P10.3: the same of the write's bytes.
func TestPlanNewMemory(t *testing.T) {
	c := sample()
	for i, want := range disks() {
		d, b := handed(want), roomy([]byte("abc"))
		one, two := mustPlan(t, c, d, 0, 5, 2, b), mustPlan(t, c, d, 0, 5, 2, b)
		kept := api.Pend{At: 4, Bytes: text(5, 2, []byte("abc"))}
		spoil(one.Bytes)
		if !sameWrite(two, kept) || !isAsHanded(d, want) || string(b[:7]) != "abc"+behind {
			t.Fatalf("disk %d: what Plan answers shares memory", i)
		}
		holdPlan(t, c, d, 0, 5, 2, b, kept, api.OK)
		spoil(b)
		spoil(partsOf(d)...)
		clear(d.Sectors)
		clear(d.Cache[:cap(d.Cache)])
		if !sameWrite(two, kept) {
			t.Fatalf("disk %d: what Plan answers shares memory with what was handed in", i)
		}
	}
}

// P10.4: a text tells its generation, number and bytes: of two that are the same these are.
func TestTextTells(t *testing.T) {
	seen := map[string]bool{}
	notes := [][]byte{{0}, {1}, {0, 0}, {0, 1}, {1, 0}, {1, 0, 0}, make([]byte, 19), make([]byte, 20), letters(19, 1), letters(20, 1)}
	for _, gen := range gens() {
		for n := range 256 {
			for _, b := range notes {
				l, e := journal.Text(gen, n, b)
				if e != api.OK || len(l) != size || seen[string(l)] {
					t.Fatalf("Text(%d, %d, %v): %v, error %d: one that was told", gen, n, b, l, e)
				}
				seen[string(l)] = true
			}
		}
	}
}

// P10.4: a text that stands at each number of an area is a note there if the number is its own, and of its generation alone.
func TestTextIsRead(t *testing.T) {
	for _, c := range []api.Config{sample(), config(2, 9, 32)} {
		for _, gen := range gens() {
			base := noted(c, filled(c), 1, gen, 0, c.Area)
			for n := range c.Area {
				for _, own := range []int{n, n - 1, n + 1, 0, 255} {
					if own < 0 {
						continue
					}
					made, _ := journal.Text(gen, own, []byte("own"))
					d := laid(base, first(c, 1)+n, made)
					want := notesOf(gen, n)
					if own == n {
						want = append(append(want, []byte("own")), notesOf(gen, c.Area)[n+1:]...)
					}
					holdScan(t, c, d, 1, gen, want, api.OK)
					holdScan(t, c, d, 1, gen+1, nil, api.OK)
					holdScan(t, c, d, 1, gen^1<<63, nil, api.OK)
				}
			}
		}
	}
}

// leftovers are disks whose area has so many notes of the generation 5, and behind them something else.
func leftovers(c api.Config, area, has int) map[string]api.Disk {
	base := noted(c, filled(c), area, 5, 0, has)
	all := map[string]api.Disk{
		"noughts":             base,
		"an older generation": noted(c, base, area, 4, has, c.Area),
		"a newer generation":  noted(c, base, area, 6, has, c.Area),
		"notes behind one":    noted(c, base, area, 5, has+1, c.Area),
	}
	for name, x := range wrongTexts(5, has) {
		all[name] = noted(c, laid(base, first(c, area)+has, x), area, 5, has+1, c.Area)
	}
	return all
}

// P10.4: behind a crash with the write of one more note in the cache, at each fate: the notes are those that were, or, where it is done, begin with these and it.
func TestCrash(t *testing.T) {
	for _, c := range []api.Config{sample(), config(1, 1, 3)} {
		for area := range 2 {
			for has := range c.Area {
				for name, d := range leftovers(c, area, has) {
					was, wasOther := mustScan(t, c, d, area, 5), mustScan(t, c, d, 1-area, 5)
					if !same(was, notesOf(5, has)) {
						t.Fatalf("%s: %v", name, was)
					}
					p := mustPlan(t, c, d, area, 5, len(was), []byte("one more"))
					x := waiting(d, p)
					with := append(cloned(was), []byte("one more"))
					for _, y := range []api.Disk{x, flushed(t, x), crashed(t, x, api.FateDone), crashed(t, x, 4), crashed(t, x, 253)} {
						if l := mustScan(t, c, y, area, 5); !startsWith(l, with) {
							t.Errorf("%s: the notes %v do not begin with %v", name, l, with)
						}
						holdScan(t, c, y, 1-area, 5, wasOther, api.OK)
					}
					for _, fates := range [][]uint8{nil, {api.FateLost}, {api.FateBad}, {3}, {5}, {254}, {255}} {
						holdScan(t, c, crashed(t, x, fates...), area, 5, was, api.OK)
					}
				}
			}
		}
	}
}

// P10.4: the same where the write is the first or the last of many in the cache, with which that area has nothing to do.
func TestCrashAmongOthers(t *testing.T) {
	for _, c := range configs() {
		for _, has := range []int{0, 1, c.Area - 1} {
			d := noted(c, filled(c), 1, 5, 0, has)
			p := mustPlan(t, c, d, 1, 5, has, []byte("one more"))
			for _, ahead := range []int{0, 1, 62, 63} {
				x := crowded(waiting(crowded(d, ahead), p), room)
				for fate := range uint8(3) {
					for other := range uint8(3) {
						fates := bytes.Repeat([]byte{other}, room)
						fates[ahead] = fate
						want := notesOf(5, has)
						if fate == api.FateDone {
							want = append(want, []byte("one more"))
						}
						holdScan(t, c, crashed(t, x, fates...), 1, 5, want, api.OK)
					}
				}
			}
		}
	}
}

// P10.4: generations that aren't the same have no notes together, whatever stands in the area.
func TestGenerations(t *testing.T) {
	c, r := sample(), seeded(1)
	all := gens()
	for range 3000 {
		d := filled(c)
		for n := range c.Area {
			d.Sectors[first(c, 0)+n].Bytes = text(all[r.IntN(len(all))], n, letters(1+r.IntN(long), n))
		}
		var has []uint64
		for _, gen := range all {
			if len(mustScan(t, c, d, 0, gen)) > 0 {
				has = append(has, gen)
			}
		}
		if len(has) != 1 {
			t.Fatalf("the generations %v have notes", has)
		}
	}
	for _, a := range all {
		d := noted(c, filled(c), 0, a, 0, c.Area)
		for bit := range 64 {
			holdScan(t, c, d, 0, a^1<<bit, nil, api.OK)
		}
		for _, b := range all {
			want := notesOf(a, c.Area)
			if a != b {
				want = nil
			}
			holdScan(t, c, d, 0, b, want, api.OK)
		}
	}
}

// P10.4: over long runs of notes, flushes, crashes and new generations: the notes are those that were, or begin with these and the one that was to be written.
func TestLongRuns(t *testing.T) {
	r := seeded(2)
	for _, c := range configs() {
		d, gen, area := bare(c), uint64(1), 0
		var had [][]byte
		for range 300 {
			if len(had) == c.Area || r.IntN(20) == 0 {
				gen, area, had = gen+1, 1-area, nil
				holdScan(t, c, d, area, gen, nil, api.OK)
			}
			b := letters(1+r.IntN(long), r.IntN(1000))
			d = waiting(d, mustPlan(t, c, d, area, gen, len(had), b))
			with := append(had, b)
			holdScan(t, c, d, area, gen, with, api.OK)
			if fate := uint8(r.Uint32()); r.IntN(3) > 0 {
				d, had = flushed(t, d), with
			} else {
				d = crashed(t, d, fate)
				if fate%3 == api.FateDone {
					had = with
				}
			}
			holdScan(t, c, d, area, gen, had, api.OK)
			if t.Failed() {
				t.FailNow()
			}
		}
	}
}

// anySector is the text of a note, or nearly; it may be nil.
func anySector(r *rand.Rand, n int) []byte {
	if r.IntN(2) == 0 {
		for _, x := range wrongTexts(5, n) {
			if r.IntN(20) == 0 {
				return x
			}
		}
	}
	t := text(uint64(4+r.IntN(2)), n, letters(1+r.IntN(long), r.IntN(1000)))
	if r.IntN(10) == 0 {
		t[r.IntN(size)] = byte(r.Uint32())
	}
	return t
}

// anyDisk is one of a config, whose areas have many notes of the generations 4 and 5.
func anyDisk(r *rand.Rand, c api.Config) api.Disk {
	d := filled(c)
	for area := range 2 {
		for n := range c.Area {
			d = laid(d, first(c, area)+n, anySector(r, n))
		}
	}
	if r.IntN(2) == 0 {
		d = crowded(d, r.IntN(room-3))
	}
	for range r.IntN(4) {
		area, n := r.IntN(2), r.IntN(c.Area)
		if x := anySector(r, n); x != nil {
			d = waiting(d, api.Pend{At: first(c, area) + n, Bytes: x})
		}
	}
	return d
}

// P1: each call ends, and none panics, whatever comes; the answers are those of the chapter's words.
func TestWhatever(t *testing.T) {
	r := seeded(3)
	all, odd := []api.Config{config(1, 1, 3), config(1, 2, 5), sample()}, wrongAreas()
	for range 10000 {
		c := all[r.IntN(len(all))]
		d := anyDisk(r, c)
		area, n, b := r.IntN(2), r.IntN(c.Area), letters(1+r.IntN(long), r.IntN(1000))
		switch r.IntN(12) {
		case 0:
			area = odd[r.IntN(len(odd))]
		case 1:
			n = odd[r.IntN(len(odd))]
		case 2:
			b = letters([]int{0, 21, 22, 300}[r.IntN(4)], 1)
		case 3:
			c = all[r.IntN(len(all))]
		case 4:
			c.Tracks, c.Area = r.IntN(20)-1, r.IntN(36)
		case 5:
			d.Sectors[r.IntN(len(d.Sectors))].Bytes = make([]byte, r.IntN(size))
		case 6:
			d.Cache = append(d.Cache, api.Pend{At: odd[r.IntN(len(odd))], Bytes: make([]byte, size)})
		case 7:
			d.Sectors = d.Sectors[:r.IntN(len(d.Sectors))]
		}
		holdAll(t, c, d, area, uint64(4+r.IntN(2)), n, b)
		holdAll(t, c, d, area, r.Uint64(), n, b)
		if t.Failed() {
			t.FailNow()
		}
	}
}

// P1: nothing is kept from call to call, whoever calls between.
func TestNothingIsKept(t *testing.T) {
	var all sync.WaitGroup
	for i, c := range []api.Config{sample(), config(1, 1, 3), config(3, 16, 32), sample()} {
		all.Add(1)
		go func() {
			defer all.Done()
			gen := uint64(5 + i)
			d := noted(c, filled(c), 1, gen, 0, 2)
			for k := range 100 {
				b := letters(1+k%long, k)
				want := api.Pend{At: first(c, 1) + 2, Bytes: text(gen, 2, b)}
				holdText(t, gen, k, b, text(gen, k, b), api.OK)
				holdPlan(t, c, d, 1, gen, 2, b, want, api.OK)
				holdScan(t, c, d, 1, gen, notesOf(gen, 2), api.OK)
				holdScan(t, c, waiting(d, want), 1, gen, append(notesOf(gen, 2), b), api.OK)
				holdPlan(t, c, d, 1, gen, c.Area, b, api.Pend{}, api.ErrFull)
				holdScan(t, c, d, 2, gen, nil, api.ErrArg)
			}
		}()
	}
	all.Wait()
}

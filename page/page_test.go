package page_test

import (
	"bytes"
	"maps"
	"math"
	"math/rand/v2"
	"slices"
	"sync"
	"testing"

	"catamaran/api"
	"catamaran/bits"
	"catamaran/disk"
	"catamaran/page"
	"catamaran/place"
)

// The chapter's examples.
func TestExamples(t *testing.T) {
	c, d := sample(), bare(sample())
	holdText(t, c, 1, 1, 1, append([]byte{1, 1, 1, 1}, make([]byte, 28)...), api.OK)
	holdText(t, c, 1, 1, 2, nil, api.ErrArg)
	holdPlan(t, c, 1, 1, 2, api.Pend{}, api.ErrArg)
	holdRead(t, c, d, 0, []byte{0, 0}, api.OK)
	holdRead(t, c, d, 1, []byte{0, 0}, api.OK)
	d = laid(d, 13, nil)
	holdRead(t, c, d, 0, []byte{0, 0}, api.OK)
	holdRead(t, c, d, 1, []byte{0, 1}, api.OK)
	if l, e := bits.List(9, mustRead(t, c, d, 1)); !slices.Equal(l, []int{8}) || e != api.OK {
		t.Errorf("the tracks %v, error %d", l, e)
	}
}

// Writes, byte by byte, and where they go.
func TestExampleBytes(t *testing.T) {
	c, d := sample(), bare(sample())
	noughts := make([]byte, 28)
	writes := []api.Pend{
		{At: 10, Bytes: append([]byte{1, 0, 0, 0x85}, noughts...)},
		{At: 11, Bytes: append([]byte{1, 0, 1, 1}, noughts...)},
		{At: 12, Bytes: append([]byte{1, 1, 0, 0}, noughts...)},
		{At: 13, Bytes: append([]byte{1, 1, 1, 1}, noughts...)},
	}
	holdPlan(t, c, 0, 0, 0x85, writes[0], api.OK)
	holdPlan(t, c, 0, 1, 1, writes[1], api.OK)
	holdPlan(t, c, 1, 0, 0, writes[2], api.OK)
	holdPlan(t, c, 1, 1, 1, writes[3], api.OK)
	d = waiting(d, writes...)
	for _, d := range []api.Disk{d, flushed(t, d), crashed(t, d, 1, 1, 1, 1)} {
		holdRead(t, c, d, 0, []byte{0x85, 1}, api.OK)
		holdRead(t, c, d, 1, []byte{0, 1}, api.OK)
	}
	d = crashed(t, d, 2, 0, 2, 2)
	holdRead(t, c, d, 0, []byte{255, 0}, api.OK)
	holdRead(t, c, d, 1, []byte{255, 1}, api.OK)
}

// The numbers of the limits and of the errors, which the document names.
func TestNumbers(t *testing.T) {
	if api.SectorBytes != size || api.PageTracks != 8 || api.MaxTracks != 16 || api.MaxPairs != 3 {
		t.Errorf("a sector has %d bytes, a page %d tracks, a volume %d, and there are %d pairs", api.SectorBytes, api.PageTracks, api.MaxTracks, api.MaxPairs)
	}
	for e, want := range map[api.Errno]int{api.OK: 0, api.ErrArg: 2, api.ErrBad: 8} {
		if int(e) != want {
			t.Errorf("the error %d, want %d", e, want)
		}
	}
}

// P13.1: each of the 256 bits, of each page of each config: those of tracks that the page has, and those that have another one.
func TestBits(t *testing.T) {
	for _, c := range configs() {
		eachPage(c, func(pair, n int) {
			may := 0
			for b := range 256 {
				if byte(b)&^all(c, n) != 0 {
					refuseWrites(t, c, pair, n, byte(b), api.ErrArg)
					continue
				}
				may++
				want := text(pair, n, byte(b))
				holdText(t, c, pair, n, byte(b), want, api.OK)
				holdPlan(t, c, pair, n, byte(b), api.Pend{At: first(c, pair, n), Bytes: want}, api.OK)
			}
			if has := min(8, c.Tracks-8*n); may != 1<<has {
				t.Errorf("%v: a page of %d tracks may have %d bits", c, has, may)
			}
		})
	}
}

// P13.1: each track of each config has its bit in its page, and no page has more.
func TestTracks(t *testing.T) {
	for _, c := range configs() {
		for pair := range c.Pairs {
			for track := range c.Pairs * 16 {
				n, bit := track/8, byte(1)<<(track%8)
				if track < c.Tracks {
					holdText(t, c, pair, n, bit, text(pair, n, bit), api.OK)
				} else {
					refuseWrites(t, c, pair, n, bit, api.ErrArg)
				}
			}
		}
	}
}

// P13.1: pairs and pages that there are not, whatever the bits are.
func TestPlaces(t *testing.T) {
	for _, c := range configs() {
		for _, b := range someBits() {
			for _, pair := range beside(c.Pairs) {
				refuseWrites(t, c, pair, 0, b, api.ErrArg)
				refuseWrites(t, c, pair, pages(c)-1, b, api.ErrArg)
				refuseWrites(t, c, pair, pair, b, api.ErrArg)
				refuseWrites(t, c, pair, -1, b, api.ErrArg)
			}
			for _, n := range beside(pages(c)) {
				refuseWrites(t, c, 0, n, b, api.ErrArg)
				refuseWrites(t, c, c.Pairs-1, n, b, api.ErrArg)
			}
		}
	}
}

// P13.2: the same of Read.
func TestReadPair(t *testing.T) {
	for _, c := range configs() {
		d := marked(c)
		for pair := range c.Pairs {
			holdRead(t, c, d, pair, marksOf(c, pair), api.OK)
		}
		for _, pair := range beside(c.Pairs) {
			holdRead(t, c, d, pair, nil, api.ErrArg)
			holdRead(t, c, bare(c), pair, nil, api.ErrArg)
		}
	}
}

// P13.1, P13.2: what is planned stands where chapter 7 says, and is read of there.
func TestAsPlace(t *testing.T) {
	for _, c := range configs() {
		if n, e := place.Sectors(c); n != many(c) || e != api.OK {
			t.Fatalf("%v has %d sectors, error %d", c, n, e)
		}
		eachPage(c, func(pair, n int) {
			p := mustPlan(t, c, pair, n, all(c, n))
			if at, e := place.Page(c, pair, n); p.At != at || e != api.OK {
				t.Errorf("%v: the page %d of pair %d is written to the sector %d, want %d", c, n, pair, p.At, at)
			}
			d := waiting(filled(c), p)
			for other := range c.Pairs {
				want := make([]byte, pages(c))
				if other == pair {
					want[n] = all(c, n)
				}
				holdRead(t, c, d, other, want, api.OK)
			}
		})
	}
}

// P13.2: the text of each page, for each bits that may be, tells these; all other pages have what they had.
func TestReadTexts(t *testing.T) {
	for _, c := range configs() {
		d := marked(c)
		eachPage(c, func(pair, n int) {
			at := first(c, pair, n)
			was := d.Sectors[at].Bytes
			for b := range 256 {
				d.Sectors[at].Bytes = text(pair, n, byte(b))
				told := byte(b)
				if told&^all(c, n) != 0 {
					told = all(c, n)
				}
				holdRead(t, c, d, pair, with(marksOf(c, pair), n, told), api.OK)
				if b%64 == 1 {
					holdMarks(t, c, d)
				}
			}
			d.Sectors[at].Bytes = was
		})
	}
}

// P13.2: noughts in some pages and Bad sectors in others: all that there may be.
func TestReadNoughtsAndBad(t *testing.T) {
	for _, c := range configs() {
		for which := range 1 << (c.Pairs * pages(c)) {
			d, want := filled(c), make([][]byte, c.Pairs)
			eachPage(c, func(pair, n int) {
				has := byte(0)
				if which>>(pair*pages(c)+n)&1 == 1 {
					d.Sectors[first(c, pair, n)].Bad = true
					has = all(c, n)
				}
				want[pair] = append(want[pair], has)
			})
			for pair, s := range want {
				holdRead(t, c, d, pair, s, api.OK)
			}
		}
	}
}

// wrongTexts are sectors that are no text of a page, or as good as one; a nil one is Bad.
func wrongTexts(c api.Config, pair, n int) map[string][]byte {
	b := bitsOf(c, pair, n)
	turned := func(at int, v byte) []byte {
		t := text(pair, n, b)
		t[at] = v
		return t
	}
	l := map[string][]byte{
		"Bad":                     nil,
		"255":                     bytes.Repeat([]byte{255}, size),
		"1":                       bytes.Repeat([]byte{1}, size),
		"the next pair's":         text(pair+1, n, b),
		"the pair's below":        text(pair+255, n, b),
		"the next page's":         text(pair, n+1, b),
		"the page's below":        text(pair, n+255, b),
		"pair and page exchanged": text(n+1, pair, b),
		"mark 0":                  turned(0, 0),
		"mark 2":                  turned(0, 2),
		"mark 129":                turned(0, 129),
		"mark 255":                turned(0, 255),
		"1 behind the bits":       turned(4, 1),
		"1 in the midst":          turned(17, 1),
		"1 at the end":            turned(31, 1),
		"128 at the end":          turned(31, 128),
		"a text, moved":           append([]byte{0}, text(pair, n, b)[:31]...),
		"a text at the end":       append(make([]byte, 28), text(pair, n, b)[:4]...),
		"a text, backwards":       backwards(text(pair, n, b)),
		"a note of a journal":     append([]byte{0, 0, 0, 0, 0, 0, 1, 2, 1, 3, 2, 0, 'a', 'b'}, make([]byte, 18)...),
		"a part of a cell":        append([]byte{0, 0, 0, 1, 0, 2, 0, 0, 'a', 'b'}, make([]byte, 22)...),
		"bits alone":              append([]byte{0, 0, 0, 1}, make([]byte, 28)...),
		"bits of all kinds":       text(pair, n, 255),
		"the last bit alone":      text(pair, n, 128),
	}
	if all(c, n) == 255 { // these are its own
		delete(l, "bits of all kinds")
		delete(l, "the last bit alone")
	}
	return l
}

func backwards(b []byte) []byte {
	slices.Reverse(b)
	return b
}

// P13.2: something else: all tracks that the page has, and no other page has more, or less.
func TestReadSomethingElse(t *testing.T) {
	for _, c := range configs() {
		full := marked(c)
		eachPage(c, func(pair, n int) {
			for name, x := range wrongTexts(c, pair, n) {
				d := laid(full, first(c, pair, n), x)
				for other := range c.Pairs {
					want := marksOf(c, other)
					if other == pair {
						want[n] = all(c, n)
					}
					holdRead(t, c, d, other, want, api.OK)
				}
				if t.Failed() {
					t.Fatalf("pair %d, page %d: %s", pair, n, name)
				}
			}
		})
	}
}

// P13.2: the texts of other pages, of other pairs or of the same one, in each page's sector.
func TestReadOtherPages(t *testing.T) {
	for _, c := range configs() {
		eachPage(c, func(pair, n int) {
			d := marked(c)
			for p := range 4 {
				for m := range 4 {
					if p == pair && m == n {
						continue
					}
					for _, b := range []byte{0, 1} {
						d.Sectors[first(c, pair, n)].Bytes = text(p, m, b)
						holdRead(t, c, d, pair, with(marksOf(c, pair), n, all(c, n)), api.OK)
					}
				}
			}
		})
	}
}

// P13.2: each one of the 32 bytes of a text, turned to each other one: other bits, or something else.
func TestReadBytes(t *testing.T) {
	for _, c := range few() {
		eachPage(c, func(pair, n int) {
			for _, b := range []byte{0, 1, all(c, n)} {
				d := marked(c)
				for at := range size {
					for v := range 256 {
						x := text(pair, n, b)
						was := x[at]
						x[at] = byte(v)
						told := all(c, n)
						switch {
						case byte(v) == was:
							told = b
						case bytes.Equal(x, make([]byte, size)): // that of no tracks, of the first page of all, without its mark
							told = 0
						case at == 3 && byte(v)&^all(c, n) == 0:
							told = byte(v)
						}
						d.Sectors[first(c, pair, n)].Bytes = x
						holdRead(t, c, d, pair, with(marksOf(c, pair), n, told), api.OK)
					}
					if t.Failed() {
						t.Fatalf("the byte %d", at)
					}
				}
			}
		})
	}
}

// P13.2: each one of the 32 bytes of noughts, turned to each other one: something else, but for the text of no tracks, of the first page of all.
func TestReadNoughts(t *testing.T) {
	for _, c := range few() {
		eachPage(c, func(pair, n int) {
			d := marked(c)
			for at := range size {
				for v := range 256 {
					x := make([]byte, size)
					x[at] = byte(v)
					told := all(c, n)
					if v == 0 || v == 1 && at == 0 && pair == 0 && n == 0 {
						told = 0
					}
					d.Sectors[first(c, pair, n)].Bytes = x
					holdRead(t, c, d, pair, with(marksOf(c, pair), n, told), api.OK)
				}
			}
		})
	}
}

// P13.2: each two bits of a text, turned: what is told is by the words.
func TestReadTwoBits(t *testing.T) {
	for _, c := range []api.Config{sample(), config(3, 15, 5)} {
		d := marked(c)
		eachPage(c, func(pair, n int) {
			for bit := range 8 * size {
				for other := bit % 5; other < bit; other += 5 {
					x := text(pair, n, bitsOf(c, pair, n))
					x[bit/8] ^= 1 << (bit % 8)
					x[other/8] ^= 1 << (other % 8)
					d.Sectors[first(c, pair, n)].Bytes = x
					told := tells(c, x, pair, n)
					if bit >= 32 && told != all(c, n) {
						t.Fatalf("the bits %d and %d: by the words %d", bit, other, told)
					}
					s, e := page.Read(c, d, pair)
					if len(s) != pages(c) || s[n] != told || e != api.OK {
						t.Fatalf("Read of %v in page %d of pair %d: %v, error %d; want %d", x, n, pair, s, e, told)
					}
				}
			}
			d.Sectors[first(c, pair, n)].Bytes = text(pair, n, bitsOf(c, pair, n))
		})
	}
}

// P13.2: sectors count as they are read: by the last write in the cache, also where they are Bad, else by themselves.
func TestAsRead(t *testing.T) {
	for _, c := range few() {
		full := marked(c)
		eachPage(c, func(pair, n int) {
			at, bits := first(c, pair, n), all(c, n)&0x96
			good, none := api.Pend{At: at, Bytes: text(pair, n, bits)}, api.Pend{At: at, Bytes: make([]byte, size)}
			hold := func(d api.Disk, told byte) {
				t.Helper()
				holdRead(t, c, d, pair, with(marksOf(c, pair), n, told), api.OK)
				holdMarks(t, c, d)
			}
			for name, x := range wrongTexts(c, pair, n) {
				d := laid(full, at, x)
				hold(waiting(d, good), bits)
				hold(waiting(d, none), 0)
				hold(waiting(d, none, good), bits)
				hold(waiting(d, good, none), 0)
				hold(waiting(d, good, good), bits)
				hold(crowded(waiting(crowded(d, 30), good), room), bits)
				hold(crowded(waiting(crowded(d, 30), none, good), room), bits)
				hold(crowded(d, room), all(c, n))
				if x == nil {
					continue
				}
				wrong := api.Pend{At: at, Bytes: x}
				hold(waiting(full, wrong), all(c, n))
				hold(waiting(full, wrong, good), bits)
				hold(waiting(full, good, wrong), all(c, n))
				hold(waiting(full, none, good, wrong), all(c, n))
				hold(waiting(full, wrong, good, none), 0)
				hold(waiting(laid(full, at, nil), wrong), all(c, n))
				if t.Failed() {
					t.Fatalf("page %d of pair %d: %s", n, pair, name)
				}
			}
		})
	}
}

// P13.2: so many writes of a page in the cache, up to all that there is room for: the last one is read.
func TestManyWrites(t *testing.T) {
	for _, c := range few() {
		eachPage(c, func(pair, n int) {
			d := marked(c)
			for i := range room {
				bits := byte(7*i+3) & all(c, n)
				d = waiting(d, mustPlan(t, c, pair, n, bits))
				holdRead(t, c, d, pair, with(marksOf(c, pair), n, bits), api.OK)
			}
		})
	}
}

// P13.2: no sector but those of the pair's pages counts, whatever stands there, or waits there.
func TestOtherSectors(t *testing.T) {
	for _, c := range few() {
		for pair := range c.Pairs {
			for at := range many(c) {
				n := at - first(c, pair, 0)
				if n >= 0 && n < pages(c) {
					continue
				}
				for _, x := range [][]byte{nil, make([]byte, size), text(pair, 0, 0), text(pair, pages(c)-1, 1), bytes.Repeat([]byte{255}, size)} {
					d := laid(marked(c), at, x)
					holdRead(t, c, d, pair, marksOf(c, pair), api.OK)
					if x != nil {
						holdRead(t, c, waiting(marked(c), api.Pend{At: at, Bytes: x}), pair, marksOf(c, pair), api.OK)
					}
				}
			}
		}
	}
}

// P13.1, P13.2: marks are a set, of the config's tracks: each set that there may be is written page by page, and read.
func TestAsSets(t *testing.T) {
	for _, c := range []api.Config{config(1, 1, 3), config(2, 7, 4), sample(), config(2, 12, 32)} {
		d := filled(c)
		for which := range 1 << c.Tracks {
			var tracks []int
			for track := range c.Tracks {
				if which>>track&1 == 1 {
					tracks = append(tracks, track)
				}
			}
			s, _ := bits.Of(c.Tracks, tracks)
			for n, b := range s {
				d.Sectors[first(c, c.Pairs-1, n)].Bytes = mustPlan(t, c, c.Pairs-1, n, b).Bytes
			}
			marks := mustRead(t, c, d, c.Pairs-1)
			if l, e := bits.List(c.Tracks, marks); !slices.Equal(l, tracks) || e != api.OK {
				t.Fatalf("%v: the marks %v are the tracks %v, error %d; want %v", c, marks, l, e, tracks)
			}
		}
	}
}

// P13.2: a disk that has as many sectors as the config's, and those that have one less, one more, or far too few or many.
func TestSectors(t *testing.T) {
	for _, c := range configs() {
		full := marked(c)
		holdMarks(t, c, full)
		for _, n := range []int{0, 1, 2, first(c, 0, 0), first(c, c.Pairs, 0), many(c) - 1, many(c) + 1, many(c) + 4, 1024, 1025} {
			d := disk.Twin(full)
			d.Sectors = d.Sectors[:min(n, len(d.Sectors))]
			for len(d.Sectors) < n {
				d.Sectors = append(d.Sectors, api.Sector{Bytes: make([]byte, size)})
			}
			refuseDisk(t, c, d)
		}
	}
}

// P13.2: a config and a disk of another one: what counts is how many sectors it has.
func TestOtherConfig(t *testing.T) {
	for _, a := range configs() {
		for _, b := range configs() {
			d := marked(b)
			if many(a) != many(b) {
				holdRead(t, a, d, 0, nil, api.ErrBad)
				holdRead(t, a, d, a.Pairs, nil, api.ErrBad)
				continue
			}
			holdMarks(t, a, d)
			holdRead(t, a, d, a.Pairs, nil, api.ErrArg)
		}
	}
}

// fields are those of a config, and numbers that they may not be in that of the examples.
func fields() map[string]struct {
	of    func(c *api.Config) *int
	wrong []int
} {
	return map[string]struct {
		of    func(c *api.Config) *int
		wrong []int
	}{
		"Pairs":  {func(c *api.Config) *int { return &c.Pairs }, []int{0, 1, 3, 4}}, // Most, or Area, is not for 1, or 3
		"Tracks": {func(c *api.Config) *int { return &c.Tracks }, []int{0, 17, 24}},
		"Area":   {func(c *api.Config) *int { return &c.Area }, []int{0, 3, 33}},
		"Most":   {func(c *api.Config) *int { return &c.Most }, []int{0, 3}},
		"Window": {func(c *api.Config) *int { return &c.Window }, []int{0, 5}},
		"Quiet":  {func(c *api.Config) *int { return &c.Quiet }, []int{0, 3, 65}},
	}
}

// P13.1, P13.2: configs that may not be, each for one field's sake, with disks of sizes that would fit.
func TestWrongConfig(t *testing.T) {
	for _, field := range fields() {
		for _, wrong := range append(field.wrong, -1, math.MaxInt, math.MinInt, math.MaxInt-1, 1<<32+2) {
			c := sample()
			*field.of(&c) = wrong
			refuseConfig(t, c)
			refuseDisk(t, c, marked(sample()))
			if fits := many(c); fits > 0 && fits <= 1024 {
				d, _ := disk.New(fits)
				refuseDisk(t, c, d)
			}
			refuseDisk(t, c, api.Disk{})
		}
	}
	refuseConfig(t, api.Config{})
	refuseDisk(t, api.Config{}, api.Disk{})
	refuseDisk(t, api.Config{}, marked(sample()))
}

// P13.1, P13.2: each field of a config at its least and its most: it may be.
func TestConfigEdges(t *testing.T) {
	for _, c := range configs() {
		for most := 1; most <= c.Pairs; most++ {
			for _, window := range []int{1, 4} {
				for _, quiet := range []int{4, 64} {
					c.Most, c.Window, c.Quiet = most, window, quiet
					n := pages(c) - 1
					holdText(t, c, c.Pairs-1, n, all(c, n), text(c.Pairs-1, n, all(c, n)), api.OK)
					holdWrites(t, c, c.Pairs-1, n, all(c, n))
					holdRead(t, c, marked(c), c.Pairs-1, marksOf(c, c.Pairs-1), api.OK)
				}
			}
		}
	}
}

// P13.2: disks that may not be, for the sake of one thing each, in the pages' sectors or elsewhere.
func TestWrongDisk(t *testing.T) {
	refuse := func(turn func(d *api.Disk)) {
		t.Helper()
		d := marked(sample())
		turn(&d)
		refuseDisk(t, sample(), d)
	}
	for _, at := range []int{0, 2, 9, 10, 11, 12, 13, 14, 85} {
		refuse(func(d *api.Disk) { d.Sectors[at].Bytes = make([]byte, size-1) })
		refuse(func(d *api.Disk) { d.Sectors[at].Bytes = make([]byte, size+1) })
		refuse(func(d *api.Disk) { d.Sectors[at].Bytes = text(0, 0, 1)[:4] })
		refuse(func(d *api.Disk) { d.Sectors[at].Bytes = nil })
		refuse(func(d *api.Disk) { d.Sectors[at] = api.Sector{Bytes: text(0, 0, 1), Bad: true} })
		refuse(func(d *api.Disk) { d.Sectors[at] = api.Sector{Bad: true} })
		refuse(func(d *api.Disk) { d.Cache = []api.Pend{{At: at, Bytes: text(0, 0, 1)[:31]}} })
		refuse(func(d *api.Disk) { d.Cache = []api.Pend{{At: at, Bytes: make([]byte, size+1)}} })
		refuse(func(d *api.Disk) { d.Cache = []api.Pend{{At: at}} })
	}
	refuse(func(d *api.Disk) { *d = crowded(*d, room+1) })
	for _, at := range []int{-1, 86, math.MaxInt, math.MinInt} {
		refuse(func(d *api.Disk) { d.Cache = []api.Pend{{At: at, Bytes: make([]byte, size)}} })
	}
	refuse(func(d *api.Disk) { *d = api.Disk{} })
}

// asked is what is asked of the calls.
type asked struct {
	c       api.Config
	d       api.Disk
	pair, n int
	bits    byte
}

// fault turns what is asked, so that some calls tell an error, if no other one comes first.
type fault struct {
	e     api.Errno
	calls string // t: Text and Plan, r: Read
	turn  func(a *asked)
}

// faults are in the order in which the chapter names their errors. The first three are of the config, the others of one thing each.
func faults() []fault {
	return []fault{
		{api.ErrBad, "tr", func(a *asked) { a.c.Quiet = 3 }},
		{api.ErrBad, "tr", func(a *asked) { a.c.Pairs = 4 }},
		{api.ErrBad, "tr", func(a *asked) { a.c.Tracks = 0 }},
		{api.ErrBad, "r", func(a *asked) { a.d.Sectors[13].Bytes = nil }},
		{api.ErrBad, "r", func(a *asked) { a.d = crowded(a.d, room+1) }},
		{api.ErrBad, "r", func(a *asked) { a.d.Sectors = append(a.d.Sectors, api.Sector{Bytes: make([]byte, size)}) }},
		{api.ErrArg, "tr", func(a *asked) { a.pair = 2 }},
		{api.ErrArg, "t", func(a *asked) { a.n = 2 }},
		{api.ErrArg, "t", func(a *asked) { a.bits = 2 }},
	}
}

// P1, P13.1, P13.2: of several errors the one named first is told, of all of them together.
func TestFirstError(t *testing.T) {
	all := faults()
	for which := range 1 << len(all) {
		a := asked{sample(), marked(sample()), 1, 1, 1}
		told := map[rune]api.Errno{}
		for i, f := range all {
			if which>>i&1 == 0 {
				continue
			}
			f.turn(&a)
			for _, call := range f.calls {
				if told[call] == api.OK {
					told[call] = f.e
				}
			}
		}
		holdTold(t, a, told)
		holdAll(t, a.c, a.d, a.pair, a.n, a.bits)
		if t.Failed() {
			t.Fatalf("the faults %b", which)
		}
	}
}

// holdTold holds that each call tells its error, or none, and beside one nothing.
func holdTold(t *testing.T, a asked, told map[rune]api.Errno) {
	t.Helper()
	if b, e := page.Text(a.c, a.pair, a.n, a.bits); e != told['t'] || (len(b) == 0) != (e != api.OK) {
		t.Errorf("Text: %v, error %d; want %d", b, e, told['t'])
	}
	if p, e := page.Plan(a.c, a.pair, a.n, a.bits); e != told['t'] || (p.At == 0) != (e != api.OK) || (len(p.Bytes) == 0) != (e != api.OK) {
		t.Errorf("Plan: %v, error %d; want %d", p, e, told['t'])
	}
	if s, e := page.Read(a.c, a.d, a.pair); e != told['r'] || (len(s) == 0) != (e != api.OK) {
		t.Errorf("Read: %v, error %d; want %d", s, e, told['r'])
	}
}

const behind = "----"

func roomy(b []byte) []byte { return append(bytes.Clone(b), behind...)[:len(b)] }

// handed is d in other memory, all lists of which have more behind their ends.
func handed(d api.Disk) api.Disk {
	d = disk.Twin(d)
	for i := range d.Sectors {
		d.Sectors[i].Bytes = roomy(d.Sectors[i].Bytes)
	}
	for i := range d.Cache {
		d.Cache[i].Bytes = roomy(d.Cache[i].Bytes)
	}
	d.Sectors = append(d.Sectors, api.Sector{Bytes: roomy(nil)})[:len(d.Sectors)]
	d.Cache = append(d.Cache, api.Pend{At: -7}, api.Pend{At: -7})[:len(d.Cache)]
	return d
}

// isAsHanded tells whether all of d is as handed made it.
func isAsHanded(d, want api.Disk) bool {
	for _, b := range append(partsOf(d), d.Sectors[:len(d.Sectors)+1][len(d.Sectors)].Bytes) {
		if string(b[len(b):len(b)+len(behind)]) != behind {
			return false
		}
	}
	for _, p := range d.Cache[len(d.Cache) : len(d.Cache)+2] {
		if p.At != -7 || p.Bytes != nil {
			return false
		}
	}
	return disk.Same(d, want)
}

func partsOf(d api.Disk) [][]byte {
	var l [][]byte
	for _, s := range d.Sectors {
		l = append(l, s.Bytes)
	}
	for _, p := range d.Cache {
		l = append(l, p.Bytes)
	}
	return l
}

// spoil turns each byte, also those in the capacities.
func spoil(parts ...[]byte) {
	for _, b := range parts {
		b = b[:cap(b)]
		for i := range b {
			b[i] += 99
		}
	}
}

// disks are such of the examples' config, in the ways in which the pages of pair 1 may stand there, also in the cache.
func disks() []api.Disk {
	c := sample()
	full := marked(c)
	l := []api.Disk{bare(c), filled(c), full}
	for _, x := range wrongTexts(c, 1, 0) {
		d := laid(full, 12, x)
		l = append(l, d, waiting(d, api.Pend{At: 12, Bytes: text(1, 0, 9)}))
	}
	two := waiting(full, api.Pend{At: 13, Bytes: text(1, 1, 0)}, api.Pend{At: 12, Bytes: text(1, 0, 9)}, api.Pend{At: 12, Bytes: text(1, 0, 6)})
	return append(l, two, crowded(two, room), crowded(full, room), waiting(full, api.Pend{At: 12, Bytes: make([]byte, size)}))
}

// P13.3: what is handed in is as it was, also behind its end; also where Read tells an error.
func TestOnlyRead(t *testing.T) {
	for i, want := range disks() {
		d := handed(want)
		for _, c := range []api.Config{sample(), config(1, 1, 3), {}} {
			for _, pair := range []int{0, 1, 2, -1} {
				page.Read(c, d, pair)
			}
		}
		if !isAsHanded(d, want) {
			t.Errorf("the disk %d: what was handed in is another one", i)
		}
	}
}

// P13.3: a change of marks changes no other ones, nor the disk; a change of that changes no marks.
func TestReadNewMemory(t *testing.T) {
	c := sample()
	for i, want := range disks() {
		d := handed(want)
		one, two := mustRead(t, c, d, 1), mustRead(t, c, d, 1)
		kept := bytes.Clone(two)
		spoil(one)
		if !bytes.Equal(two, kept) || !isAsHanded(d, want) {
			t.Fatalf("the disk %d: what Read answers shares memory", i)
		}
		holdRead(t, c, d, 1, kept, api.OK)
		spoil(partsOf(d)...)
		clear(d.Sectors)
		clear(d.Cache[:cap(d.Cache)])
		if !bytes.Equal(two, kept) {
			t.Fatalf("the disk %d: what Read answers shares memory with what was handed in", i)
		}
		holdRead(t, c, want, 1, kept, api.OK)
	}
}

// P13.3: a change of a text, or of a write's bytes, changes no other ones.
func TestWritesNewMemory(t *testing.T) {
	for _, c := range few() {
		eachPage(c, func(pair, n int) {
			for _, b := range []byte{0, 1, all(c, n)} {
				want := text(pair, n, b)
				texts := [][]byte{mustText(t, c, pair, n, b), mustPlan(t, c, pair, n, b).Bytes, mustText(t, c, pair, n, b), mustPlan(t, c, pair, n, b).Bytes}
				for i, l := range texts {
					if !bytes.Equal(l, want) {
						t.Fatalf("the text %d shares memory with one ahead of it", i)
					}
					spoil(l)
				}
				holdText(t, c, pair, n, b, want, api.OK)
				holdPlan(t, c, pair, n, b, api.Pend{At: first(c, pair, n), Bytes: want}, api.OK)
			}
		})
	}
}

// stands are the ways in which a page's sector may stand there; nil is a Bad one.
func stands(c api.Config, pair, n int) map[string][]byte {
	l := wrongTexts(c, pair, n)
	l["noughts"] = make([]byte, size)
	l["no tracks"] = text(pair, n, 0)
	l["all tracks"] = text(pair, n, all(c, n))
	l["some tracks"] = text(pair, n, bitsOf(c, pair, n))
	return l
}

// left is what is read of a page behind a crash, by the fates of these writes of it, and what it had.
func left(c api.Config, n int, had byte, writes []byte, fates []uint8) byte {
	for i, b := range writes {
		switch {
		case i >= len(fates) || fates[i]%3 == api.FateLost:
		case fates[i]%3 == api.FateDone:
			had = b
		default:
			had = all(c, n)
		}
	}
	return had
}

// holdLeft holds that the page has that, which is what it had, what one of the writes has, or all its tracks; and that all other pages have what they had.
func holdLeft(t *testing.T, c api.Config, was, now api.Disk, pair, n int, writes []byte, told byte) {
	t.Helper()
	for other := range c.Pairs {
		want, got := mustRead(t, c, was, other), mustRead(t, c, now, other)
		if other != pair {
			if !bytes.Equal(got, want) {
				t.Errorf("the pair %d has %v, and had %v", other, got, want)
			}
			continue
		}
		if !bytes.Equal(got, with(want, n, told)) {
			t.Errorf("the pair has %v; the page %d had %d, the pair %v, and the page has to have %d", got, n, want[n], want, told)
		}
		if got[n] != want[n] && got[n] != all(c, n) && !bytes.Contains(writes, got[n:n+1]) {
			t.Errorf("the page has %d; it had %d, and %v was written", got[n], want[n], writes)
		}
	}
}

// P13.4: whatever stands there, with none to three writes of the page in the cache, at each fate: behind a crash it has what it had, what one of them has, or all its tracks; all other pages have what they had. Behind a flush it has what the last one has.
func TestCrash(t *testing.T) {
	for _, c := range []api.Config{sample(), config(1, 1, 3), config(3, 15, 5)} {
		eachPage(c, func(pair, n int) {
			for name, x := range stands(c, pair, n) {
				base := laid(marked(c), first(c, pair, n), x)
				had := mustRead(t, c, base, pair)[n]
				for _, writes := range [][]byte{{}, {0}, {0x0f}, {0xff}, {0x0f, 0x55}, {0xff, 0}, {1, 0x33, 0x48}, {0, 0x21, 0}} {
					d, writes := base, bytes.Clone(writes)
					for i := range writes {
						writes[i] &= all(c, n)
						d = waiting(d, mustPlan(t, c, pair, n, writes[i]))
					}
					eachFates(len(writes), func(fates []uint8) {
						holdLeft(t, c, base, crashed(t, d, fates...), pair, n, writes, left(c, n, had, writes, fates))
					})
					holdLeft(t, c, base, flushed(t, d), pair, n, writes, left(c, n, had, writes, []uint8{1, 1, 1}))
					if t.Failed() {
						t.Fatalf("%v: page %d of pair %d, %s, the writes %v", c, n, pair, name, writes)
					}
				}
			}
		})
	}
}

// P13.4: a crash by fewer fates than writes, by more, and by fates that are told by what is left of them.
func TestCrashFates(t *testing.T) {
	c := sample()
	for _, x := range stands(c, 1, 0) {
		base := laid(marked(c), 12, x)
		had := mustRead(t, c, base, 1)[0]
		writes := []byte{0x0f, 0, 0x55}
		d := base
		for _, b := range writes {
			d = waiting(d, mustPlan(t, c, 1, 0, b))
		}
		for _, fates := range [][]uint8{nil, {1}, {2}, {1, 1}, {1, 2}, {2, 1}, {4, 0, 0}, {0, 5, 253}, {254, 255, 3}, {1, 1, 1, 2}, {0, 0, 1, 0, 0, 2}} {
			holdLeft(t, c, base, crashed(t, d, fates...), 1, 0, writes, left(c, 0, had, writes, fates))
		}
	}
}

// P13.4: the same where the writes of the page are among many others, none of which is a page's.
func TestCrashAmongOthers(t *testing.T) {
	for _, c := range few() {
		eachPage(c, func(pair, n int) {
			base := marked(c)
			had := bitsOf(c, pair, n)
			writes := []byte{0x35 & all(c, n), 0xca & all(c, n)}
			for _, ahead := range []int{0, 1, 30, 61} {
				d := waiting(crowded(base, ahead), mustPlan(t, c, pair, n, writes[0]))
				d = crowded(waiting(crowded(d, ahead+1), mustPlan(t, c, pair, n, writes[1])), room)
				for other := range uint8(3) {
					eachFates(2, func(own []uint8) {
						fates := bytes.Repeat([]byte{other}, room)
						copy(fates[ahead:], own)
						holdLeft(t, c, base, crashed(t, d, fates...), pair, n, writes, left(c, n, had, writes, own))
					})
				}
				holdLeft(t, c, base, flushed(t, d), pair, n, writes, writes[1])
			}
		})
	}
}

// P13.4: writes of all pages in the cache, at each fate: each page has what its own one leaves.
func TestCrashOfAll(t *testing.T) {
	for _, c := range few() {
		d, at := marked(c), [][2]int{}
		eachPage(c, func(pair, n int) {
			at = append(at, [2]int{pair, n})
			d = waiting(d, mustPlan(t, c, pair, n, ^bitsOf(c, pair, n)&all(c, n)))
		})
		eachFates(len(at), func(fates []uint8) {
			want := make([][]byte, c.Pairs)
			for i, x := range at {
				had := bitsOf(c, x[0], x[1])
				want[x[0]] = append(want[x[0]], left(c, x[1], had, []byte{^had & all(c, x[1])}, fates[i:i+1]))
			}
			now := crashed(t, d, fates...)
			for pair, s := range want {
				holdRead(t, c, now, pair, s, api.OK)
			}
		})
	}
}

// run is a disk of a config, and what its pages have to have: for good, and, of those of which writes wait, by all of these.
type run struct {
	c       api.Config
	d       api.Disk
	had     map[[2]int]byte
	waiting map[[2]int][]byte
}

// P13.4: over long runs of writes, flushes and crashes, of all pages.
func TestLongRuns(t *testing.T) {
	r := seeded(1)
	for _, c := range configs() {
		x := run{c, bare(c), map[[2]int]byte{}, map[[2]int][]byte{}}
		for range 200 {
			switch k := r.IntN(12); {
			case k < 8 && len(x.d.Cache) < room:
				at := [2]int{r.IntN(c.Pairs), r.IntN(pages(c))}
				b := byte(r.Uint32()) & all(c, at[1])
				x.d = waiting(x.d, mustPlan(t, c, at[0], at[1], b))
				x.waiting[at] = append(x.waiting[at], b)
			case k < 10:
				x.d = flushed(t, x.d)
				for at, l := range x.waiting {
					x.had[at] = l[len(l)-1]
				}
				clear(x.waiting)
			default:
				x.crash(t, r)
			}
			x.hold(t)
			if t.Failed() {
				t.FailNow()
			}
		}
	}
}

// crash takes what the pages have behind it, if they may have that, as what they had.
func (x *run) crash(t *testing.T, r *rand.Rand) {
	t.Helper()
	fates := make([]uint8, r.IntN(room+1))
	for i := range fates {
		fates[i] = []uint8{0, 1, 1, 1, 2, 4, 255}[r.IntN(7)]
	}
	x.d = crashed(t, x.d, fates...)
	for at, l := range x.waiting {
		now := mustRead(t, x.c, x.d, at[0])[at[1]]
		if now != x.had[at] && now != all(x.c, at[1]) && !bytes.Contains(l, []byte{now}) {
			t.Errorf("%v has %d behind a crash; it had %d, and %v was written", at, now, x.had[at], l)
		}
		x.had[at] = now
	}
	clear(x.waiting)
}

// hold holds that each page has what was last written to it, or left.
func (x *run) hold(t *testing.T) {
	t.Helper()
	for pair := range x.c.Pairs {
		var want []byte
		for n := range pages(x.c) {
			b := x.had[[2]int{pair, n}]
			if l := x.waiting[[2]int{pair, n}]; len(l) > 0 {
				b = l[len(l)-1]
			}
			want = append(want, b)
		}
		holdRead(t, x.c, x.d, pair, want, api.OK)
	}
}

// anySector is what may stand in a page's sector; nil is a Bad one.
func anySector(r *rand.Rand, c api.Config, pair, n int) []byte {
	switch r.IntN(8) {
	case 0:
		l := wrongTexts(c, pair, n)
		names := slices.Sorted(maps.Keys(l))
		return l[names[r.IntN(len(names))]]
	case 1:
		return make([]byte, size)
	case 2:
		x := text(pair, n, byte(r.Uint32()))
		x[r.IntN(size)] = byte(r.Uint32())
		return x
	case 3:
		return text(r.IntN(4), r.IntN(3), byte(r.Uint32()))
	}
	return text(pair, n, byte(r.Uint32()))
}

// anyDisk is one of a config, whose pages have anything.
func anyDisk(r *rand.Rand, c api.Config) api.Disk {
	d := filled(c)
	eachPage(c, func(pair, n int) { d = laid(d, first(c, pair, n), anySector(r, c, pair, n)) })
	if r.IntN(2) == 0 {
		d = crowded(d, r.IntN(room-3))
	}
	for range r.IntN(4) {
		pair, n := r.IntN(c.Pairs), r.IntN(pages(c))
		if x := anySector(r, c, pair, n); x != nil {
			d = waiting(d, api.Pend{At: first(c, pair, n), Bytes: x})
		}
	}
	return d
}

// P1: each call ends, and none panics, whatever comes; the answers are those of the chapter's words.
func TestWhatever(t *testing.T) {
	r := seeded(2)
	cs, odd := configs(), far()
	for range 10000 {
		c := cs[r.IntN(len(cs))]
		d := anyDisk(r, c)
		pair, n := r.IntN(c.Pairs), r.IntN(pages(c))
		switch r.IntN(12) {
		case 0:
			pair = odd[r.IntN(len(odd))]
		case 1:
			n = odd[r.IntN(len(odd))]
		case 2:
			pair, n = r.IntN(7)-2, r.IntN(6)-2
		case 3:
			c = cs[r.IntN(len(cs))]
		case 4:
			c.Tracks, c.Area = r.IntN(20)-1, r.IntN(36)
		case 5:
			d.Sectors[r.IntN(len(d.Sectors))].Bytes = make([]byte, r.IntN(size))
		case 6:
			d.Cache = append(d.Cache, api.Pend{At: odd[r.IntN(len(odd))], Bytes: make([]byte, size)})
		case 7:
			d.Sectors = d.Sectors[:r.IntN(len(d.Sectors))]
		}
		holdAll(t, c, d, pair, n, byte(r.Uint32()))
		holdAll(t, c, d, pair, n, 1)
		if t.Failed() {
			t.FailNow()
		}
	}
}

// P1: nothing is kept from call to call, whoever calls between.
func TestNothingIsKept(t *testing.T) {
	var calls sync.WaitGroup
	for i, c := range []api.Config{sample(), config(1, 1, 3), config(3, 16, 32), sample()} {
		calls.Add(1)
		go func() {
			defer calls.Done()
			d := marked(c)
			pair, n := c.Pairs-1, pages(c)-1
			for k := range 100 {
				bits := byte(i+k) & all(c, n)
				want := api.Pend{At: first(c, pair, n), Bytes: text(pair, n, bits)}
				holdText(t, c, pair, n, bits, want.Bytes, api.OK)
				holdPlan(t, c, pair, n, bits, want, api.OK)
				holdRead(t, c, waiting(d, want), pair, with(marksOf(c, pair), n, bits), api.OK)
				holdRead(t, c, d, pair, marksOf(c, pair), api.OK)
				holdRead(t, c, d, c.Pairs, nil, api.ErrArg)
				refuseWrites(t, c, pair, n+1, bits, api.ErrArg)
			}
		}()
	}
	calls.Wait()
}

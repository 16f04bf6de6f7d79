package page_test

import (
	"bytes"
	"fmt"
	"math"
	"math/rand/v2"
	"slices"
	"testing"

	"catamaran/api"
	"catamaran/disk"
	"catamaran/page"
)

const (
	size = 32 // bytes of a sector
	room = 64 // writes of a cache
)

func seeded(seed uint64) *rand.Rand { return rand.New(rand.NewPCG(seed, 13)) }

// config is one that may be, of whose numbers only those that place something are chosen.
func config(pairs, tracks, area int) api.Config {
	return api.Config{Pairs: pairs, Tracks: tracks, Area: area, Most: pairs, Window: 2, Quiet: 8}
}

// sample is the config of chapter 7's examples: its pages stand in the sectors 10 and 11, and 12 and 13.
func sample() api.Config { return config(2, 9, 4) }

// configs are those at the edges: of one page and of two, the last one of which has from 1 track to all 8; the least and the greatest that there may be.
func configs() []api.Config {
	var l []api.Config
	for pairs := 1; pairs <= 3; pairs++ {
		for _, tracks := range []int{1, 2, 7, 8, 9, 10, 15, 16} {
			l = append(l, config(pairs, tracks, pairs+2), config(pairs, tracks, 32))
		}
	}
	return append(l, sample(),
		api.Config{Pairs: 1, Tracks: 1, Area: 3, Most: 1, Window: 1, Quiet: 4},
		api.Config{Pairs: 3, Tracks: 16, Area: 32, Most: 3, Window: 4, Quiet: 64})
}

// few are some of them.
func few() []api.Config {
	return []api.Config{sample(), config(1, 1, 3), config(2, 7, 4), config(2, 8, 5), config(2, 15, 32), config(3, 16, 5)}
}

// pages is how many a pair has, by the words of chapter 7.
func pages(c api.Config) int { return (c.Tracks + 7) / 8 }

// first is the sector of the page n of a pair, by the words of chapter 7.
func first(c api.Config, pair, n int) int { return 2 + 2*c.Area + pair*pages(c) + n }

// many is how many sectors the disk of a config has, by the words of chapter 7.
func many(c api.Config) int { return first(c, c.Pairs, 0) + c.Pairs*c.Tracks*4 }

// all is the bits of all tracks that a page has, by the words of chapter 3.
func all(c api.Config, n int) byte {
	var bits byte
	for t := range c.Tracks {
		if t/8 == n {
			bits |= 1 << (t % 8)
		}
	}
	return bits
}

// configMay tells whether a config may be, by the words of chapter 7.
func configMay(c api.Config) bool {
	within := func(n, least, most int) bool { return n >= least && n <= most }
	return within(c.Pairs, 1, 3) && within(c.Tracks, 1, 16) && within(c.Area, c.Pairs+2, 32) &&
		within(c.Most, 1, c.Pairs) && within(c.Window, 1, 4) && within(c.Quiet, 4, 64)
}

// may tells whether c may be, and d may be a site's disk, by the words of chapter 8.
func may(c api.Config, d api.Disk) bool {
	return configMay(c) && disk.Check(d) == api.OK && len(d.Sectors) == many(c)
}

// bare is a disk that fits, of noughts.
func bare(c api.Config) api.Disk {
	d := api.Disk{Sectors: make([]api.Sector, many(c))}
	for i := range d.Sectors {
		d.Sectors[i].Bytes = make([]byte, size)
	}
	return d
}

// filled is a disk that fits, whose pages have noughts. Its other sectors are no page's: who takes one for a page's has all tracks.
func filled(c api.Config) api.Disk {
	d := bare(c)
	for i := range d.Sectors {
		if i < first(c, 0, 0) || i >= first(c, c.Pairs, 0) {
			d.Sectors[i].Bytes = bytes.Repeat([]byte{255}, size)
		}
	}
	return d
}

// text is that of a page, by the chapter's words.
func text(pair, n int, bits byte) []byte {
	return append([]byte{1, byte(pair), byte(n), bits}, make([]byte, size-4)...)
}

// bitsOf is some of a page's tracks, and others of its neighbours.
func bitsOf(c api.Config, pair, n int) byte { return byte(0x5b+29*pair+71*n) & all(c, n) }

// marked is a filled disk each page of which has the text of bitsOf.
func marked(c api.Config) api.Disk {
	d := filled(c)
	eachPage(c, func(pair, n int) { d.Sectors[first(c, pair, n)].Bytes = text(pair, n, bitsOf(c, pair, n)) })
	return d
}

// marksOf is what a pair's pages have there.
func marksOf(c api.Config, pair int) []byte {
	var s []byte
	for n := range pages(c) {
		s = append(s, bitsOf(c, pair, n))
	}
	return s
}

// with is s, where the page n has these bits.
func with(s []byte, n int, bits byte) []byte {
	s = bytes.Clone(s)
	s[n] = bits
	return s
}

// laid is d with that in a sector; nil is a Bad one.
func laid(d api.Disk, at int, t []byte) api.Disk {
	d = disk.Twin(d)
	d.Sectors[at] = api.Sector{Bytes: make([]byte, size), Bad: t == nil}
	copy(d.Sectors[at].Bytes, t)
	return d
}

// waiting is d with these writes behind the others of its cache.
func waiting(d api.Disk, writes ...api.Pend) api.Disk {
	d = disk.Twin(d)
	d.Cache = append(d.Cache, disk.Twin(api.Disk{Cache: writes}).Cache...)
	return d
}

// crowded is d with so many writes in the cache, those that are new ones none of the pages.
func crowded(d api.Disk, many int) api.Disk {
	d = disk.Twin(d)
	for i := len(d.Cache); i < many; i++ {
		at := i % 8
		if i%3 == 0 {
			at = len(d.Sectors) - 1 - i%4
		}
		d.Cache = append(d.Cache, api.Pend{At: at, Bytes: text(i%3, i%2, byte(i))})
	}
	return d
}

func crashed(t *testing.T, d api.Disk, fates ...uint8) api.Disk {
	t.Helper()
	out, e := disk.Crash(d, fates)
	if e != api.OK {
		t.Fatalf("Crash(%s, %v): error %d", shown(d), fates, e)
	}
	return out
}

func flushed(t *testing.T, d api.Disk) api.Disk {
	t.Helper()
	out, e := disk.Flush(d)
	if e != api.OK {
		t.Fatalf("Flush(%s): error %d", shown(d), e)
	}
	return out
}

// eachFates hands on all fates of so many writes.
func eachFates(many int, f func(fates []uint8)) {
	all := 1
	for range many {
		all *= 3
	}
	for n := range all {
		fates := make([]uint8, many)
		for i := range fates {
			fates[i] = uint8(n % 3)
			n /= 3
		}
		f(fates)
	}
}

func eachPage(c api.Config, f func(pair, n int)) {
	for pair := range c.Pairs {
		for n := range pages(c) {
			f(pair, n)
		}
	}
}

func shown(d api.Disk) string {
	at := []int{}
	for _, p := range d.Cache {
		at = append(at, p.At)
	}
	return fmt.Sprintf("%d sectors, writes of %v", len(d.Sectors), at)
}

// far are numbers that are far from any that may be, of which many are near in less bits, or where a product wraps round.
func far() []int {
	return []int{
		-255, -256, -257, 254, 255, 256, 257, 258, 65535, 65536, 65537, 1<<32 - 1, 1 << 32, 1<<32 + 1, -1 << 32, 1 - 1<<32,
		math.MinInt32, math.MaxInt32, math.MinInt, math.MinInt + 1, math.MinInt / 2, math.MaxInt/2 + 1, math.MaxInt - 1, math.MaxInt,
	}
}

// beside are numbers that are none of so many, from 0 on.
func beside(many int) []int { return append(far(), -2, -1, many, many+1, many+2, many+8) }

// someBits are bits at the edges.
func someBits() []byte { return []byte{0, 1, 2, 3, 0x40, 0x7f, 0x80, 0xfe, 0xff} }

// read is what is read of a sector, by the words of chapter 5; nil if it can't be.
func read(d api.Disk, at int) []byte {
	for _, p := range slices.Backward(d.Cache) {
		if p.At == at {
			return p.Bytes
		}
	}
	if d.Sectors[at].Bad {
		return nil
	}
	return d.Sectors[at].Bytes
}

// tells is what a sector tells that is read as t, if it is that of a page.
func tells(c api.Config, t []byte, pair, n int) byte {
	if t != nil && bytes.Equal(t, make([]byte, size)) {
		return 0
	}
	for bits := range 256 {
		if byte(bits)|all(c, n) == all(c, n) && bytes.Equal(t, text(pair, n, byte(bits))) {
			return byte(bits)
		}
	}
	return all(c, n)
}

func isPage(c api.Config, pair, n int) bool {
	return pair >= 0 && pair < c.Pairs && n >= 0 && n < pages(c)
}

// toldText is what Text has to answer.
func toldText(c api.Config, pair, n int, bits byte) ([]byte, api.Errno) {
	switch {
	case !configMay(c):
		return nil, api.ErrBad
	case !isPage(c, pair, n), bits|all(c, n) != all(c, n):
		return nil, api.ErrArg
	}
	return text(pair, n, bits), api.OK
}

// toldPlan is what Plan has to answer.
func toldPlan(c api.Config, pair, n int, bits byte) (api.Pend, api.Errno) {
	t, e := toldText(c, pair, n, bits)
	if e != api.OK {
		return api.Pend{}, e
	}
	return api.Pend{At: first(c, pair, n), Bytes: t}, api.OK
}

// toldRead is what Read has to answer.
func toldRead(c api.Config, d api.Disk, pair int) ([]byte, api.Errno) {
	switch {
	case !may(c, d):
		return nil, api.ErrBad
	case !isPage(c, pair, 0):
		return nil, api.ErrArg
	}
	var s []byte
	for n := range pages(c) {
		s = append(s, tells(c, read(d, first(c, pair, n)), pair, n))
	}
	return s, api.OK
}

func holdText(t *testing.T, c api.Config, pair, n int, bits byte, want []byte, wantE api.Errno) {
	t.Helper()
	b, e := page.Text(c, pair, n, bits)
	if !bytes.Equal(b, want) || e != wantE {
		t.Errorf("Text(%v, %d, %d, %d): %v, error %d; want %v, error %d", c, pair, n, bits, b, e, want, wantE)
	}
}

func holdPlan(t *testing.T, c api.Config, pair, n int, bits byte, want api.Pend, wantE api.Errno) {
	t.Helper()
	p, e := page.Plan(c, pair, n, bits)
	if !sameWrite(p, want) || e != wantE {
		t.Errorf("Plan(%v, %d, %d, %d): %v, error %d; want %v, error %d", c, pair, n, bits, p, e, want, wantE)
	}
}

// holdRead holds that the marks are these, or that this error is told, and nothing beside.
func holdRead(t *testing.T, c api.Config, d api.Disk, pair int, want []byte, wantE api.Errno) {
	t.Helper()
	s, e := page.Read(c, d, pair)
	if !bytes.Equal(s, want) || e != wantE {
		t.Errorf("Read(%v, %s, %d): %v, error %d; want %v, error %d", c, shown(d), pair, s, e, want, wantE)
	}
}

// holdWrites holds that Text and Plan answer what the chapter's words say.
func holdWrites(t *testing.T, c api.Config, pair, n int, bits byte) {
	t.Helper()
	b, e := toldText(c, pair, n, bits)
	holdText(t, c, pair, n, bits, b, e)
	p, e := toldPlan(c, pair, n, bits)
	holdPlan(t, c, pair, n, bits, p, e)
}

// holdAll holds that all calls answer what the chapter's words say, whatever is asked.
func holdAll(t *testing.T, c api.Config, d api.Disk, pair, n int, bits byte) {
	t.Helper()
	holdWrites(t, c, pair, n, bits)
	s, e := toldRead(c, d, pair)
	holdRead(t, c, d, pair, s, e)
}

// holdMarks holds that Read answers what the chapter's words say, of each pair.
func holdMarks(t *testing.T, c api.Config, d api.Disk) {
	t.Helper()
	for pair := range c.Pairs {
		s, e := toldRead(c, d, pair)
		holdRead(t, c, d, pair, s, e)
	}
}

func refuseWrites(t *testing.T, c api.Config, pair, n int, bits byte, want api.Errno) {
	t.Helper()
	holdText(t, c, pair, n, bits, nil, want)
	holdPlan(t, c, pair, n, bits, api.Pend{}, want)
}

// refuseDisk holds that Read tells ErrBad, of whatever pair.
func refuseDisk(t *testing.T, c api.Config, d api.Disk) {
	t.Helper()
	for _, pair := range append(beside(3), 0, 1, 2) {
		holdRead(t, c, d, pair, nil, api.ErrBad)
	}
}

// refuseConfig holds that Text and Plan tell ErrBad, whatever else is right or wrong.
func refuseConfig(t *testing.T, c api.Config) {
	t.Helper()
	for _, pair := range append(beside(3), 0, 1, 2) {
		for _, n := range []int{0, 1, -1, 2, math.MaxInt, math.MinInt} {
			for _, bits := range someBits() {
				refuseWrites(t, c, pair, n, bits, api.ErrBad)
			}
		}
	}
}

func sameWrite(a, b api.Pend) bool { return a.At == b.At && bytes.Equal(a.Bytes, b.Bytes) }

func mustText(t *testing.T, c api.Config, pair, n int, bits byte) []byte {
	t.Helper()
	b, e := page.Text(c, pair, n, bits)
	if e != api.OK {
		t.Fatalf("Text(%v, %d, %d, %d): error %d", c, pair, n, bits, e)
	}
	return b
}

func mustPlan(t *testing.T, c api.Config, pair, n int, bits byte) api.Pend {
	t.Helper()
	p, e := page.Plan(c, pair, n, bits)
	if e != api.OK {
		t.Fatalf("Plan(%v, %d, %d, %d): error %d", c, pair, n, bits, e)
	}
	return p
}

func mustRead(t *testing.T, c api.Config, d api.Disk, pair int) []byte {
	t.Helper()
	s, e := page.Read(c, d, pair)
	if e != api.OK {
		t.Fatalf("Read(%v, %s, %d): error %d", c, shown(d), pair, e)
	}
	return s
}

package journal_test

import (
	"bytes"
	"encoding/binary"
	"fmt"
	"math"
	"math/rand/v2"
	"slices"
	"testing"

	"catamaran/api"
	"catamaran/disk"
	"catamaran/journal"
)

const (
	size = 32 // bytes of a sector
	head = 12 // bytes of a row
	long = 20 // the most bytes of a note
	room = 64 // writes of a cache
)

func seeded(seed uint64) *rand.Rand { return rand.New(rand.NewPCG(seed, 10)) }

// config is one that may be, of whose numbers only those that place something are chosen.
func config(pairs, tracks, area int) api.Config {
	return api.Config{Pairs: pairs, Tracks: tracks, Area: area, Most: pairs, Window: 2, Quiet: 8}
}

// sample is the config of chapter 7's examples: its areas have the sectors 2 to 5 and 6 to 9.
func sample() api.Config { return config(2, 9, 4) }

// configs are those at the edges.
func configs() []api.Config {
	var l []api.Config
	for pairs := 1; pairs <= 3; pairs++ {
		for _, tracks := range []int{1, 9, 16} {
			l = append(l, config(pairs, tracks, pairs+2), config(pairs, tracks, 32))
		}
	}
	return append(l, sample())
}

// many is how many sectors the disk of a config has, by the words of chapter 7.
func many(c api.Config) int {
	pages := (c.Tracks + 7) / 8
	return 2 + 2*c.Area + c.Pairs*pages + c.Pairs*c.Tracks*4
}

// first is the first sector of an area, by the words of chapter 7.
func first(c api.Config, area int) int { return 2 + area*c.Area }

// configMay tells whether a config may be, by the words of chapter 7.
func configMay(c api.Config) bool {
	within := func(n, least, most int) bool { return n >= least && n <= most }
	return within(c.Pairs, 1, 3) && within(c.Tracks, 1, 16) && within(c.Area, c.Pairs+2, 32) &&
		within(c.Most, 1, c.Pairs) && within(c.Window, 1, 4) && within(c.Quiet, 4, 64)
}

// may tells whether c may be, and d may be a site's disk, by the words of chapter 8.
func may(c api.Config, d api.Disk) bool {
	return configMay(c) && disk.Check(d) == api.OK && len(d.Sectors) == many(c)
}

// bare is a disk that fits, of noughts.
func bare(c api.Config) api.Disk {
	d := api.Disk{Sectors: make([]api.Sector, many(c))}
	for i := range d.Sectors {
		d.Sectors[i].Bytes = make([]byte, size)
	}
	return d
}

// filled is a disk that fits, whose areas have noughts. Each of its other sectors has the text of a note, of the number that an area would have there if it went on: who takes one for an area's has a note more.
func filled(c api.Config) api.Disk {
	d := bare(c)
	for i := range d.Sectors {
		if i < first(c, 0) || i >= first(c, 2) {
			d.Sectors[i].Bytes = text(5, (i-2+c.Area)%c.Area, []byte("elsewhere"))
		}
	}
	return d
}

// text is that of a note, by the chapter's words.
func text(gen uint64, n int, b []byte) []byte {
	t := binary.BigEndian.AppendUint64(nil, gen)
	t = append(t, 1, byte(n), byte(len(b)), 0)
	t = append(t, b...)
	return append(t, make([]byte, size-len(t))...)
}

// letters are so many bytes, none of which is a nought, or is that of another number that follows soon.
func letters(many, which int) []byte {
	b := make([]byte, many)
	for i := range b {
		b[i] = byte(1 + (7*i+31*which)%255)
	}
	return b
}

// noteOf is one of each number and generation, and of any length.
func noteOf(gen uint64, n int) []byte { return letters(1+(n+int(gen%97))%long, n+int(gen%251)) }

// noted is d with the notes noteOf in the sectors from one number of an area on, to below another one.
func noted(c api.Config, d api.Disk, area int, gen uint64, from, end int) api.Disk {
	d = disk.Twin(d)
	for n := from; n < end; n++ {
		d.Sectors[first(c, area)+n] = api.Sector{Bytes: text(gen, n, noteOf(gen, n))}
	}
	return d
}

// notesOf are so many of these.
func notesOf(gen uint64, many int) [][]byte {
	var l [][]byte
	for n := range many {
		l = append(l, noteOf(gen, n))
	}
	return l
}

func badSector() api.Sector { return api.Sector{Bytes: make([]byte, size), Bad: true} }

// gens are generations at the edges.
func gens() []uint64 {
	return []uint64{0, 1, 2, 5, 255, 256, 258, 65537, 1<<32 - 1, 1 << 32, 1<<63 - 1, 1 << 63, math.MaxUint64 - 1, math.MaxUint64}
}

// far are numbers that are far from any that is asked for, of which many are near in less bits.
func far() []int {
	return []int{
		-255, -256, -257, 256, 257, 258, 65535, 65536, 65537, 1<<32 - 1, 1 << 32, 1<<32 + 1, -1 << 32, 1 - 1<<32,
		math.MinInt32, math.MaxInt32, math.MinInt, math.MinInt + 1, math.MaxInt - 1, math.MaxInt,
	}
}

// wrongAreas are those that no config has.
func wrongAreas() []int { return append(far(), -2, -1, 2, 3, 4, 127, 128, 255) }

// read is what is read of a sector, by the words of chapter 5; nil if it can't be.
func read(d api.Disk, at int) []byte {
	for _, p := range slices.Backward(d.Cache) {
		if p.At == at {
			return p.Bytes
		}
	}
	if d.Sectors[at].Bad {
		return nil
	}
	return d.Sectors[at].Bytes
}

// noteIn is the note of a generation and a number of which t is the text; nil if it is none.
func noteIn(t []byte, gen uint64, n int) []byte {
	if t == nil || t[10] < 1 || t[10] > long {
		return nil
	}
	b := t[head : head+int(t[10])]
	if !bytes.Equal(t, text(gen, n, b)) {
		return nil
	}
	return b
}

// toldText is what Text has to answer.
func toldText(gen uint64, n int, b []byte) ([]byte, api.Errno) {
	switch {
	case len(b) == 0 || len(b) > long:
		return nil, api.ErrMany
	case n < 0 || n > 255:
		return nil, api.ErrArg
	}
	return text(gen, n, b), api.OK
}

// toldScan is what Scan has to answer.
func toldScan(c api.Config, d api.Disk, area int, gen uint64) ([][]byte, api.Errno) {
	switch {
	case !may(c, d):
		return nil, api.ErrBad
	case area != 0 && area != 1:
		return nil, api.ErrArg
	}
	var l [][]byte
	for n := range c.Area {
		b := noteIn(read(d, first(c, area)+n), gen, n)
		if b == nil {
			break
		}
		l = append(l, b)
	}
	return l, api.OK
}

// toldPlan is what Plan has to answer.
func toldPlan(c api.Config, d api.Disk, area int, gen uint64, n int, b []byte) (api.Pend, api.Errno) {
	switch {
	case !may(c, d):
		return api.Pend{}, api.ErrBad
	case area != 0 && area != 1, n < 0:
		return api.Pend{}, api.ErrArg
	case n >= c.Area:
		return api.Pend{}, api.ErrFull
	}
	t, e := toldText(gen, n, b)
	if e != api.OK {
		return api.Pend{}, e
	}
	return api.Pend{At: first(c, area) + n, Bytes: t}, api.OK
}

// waiting is d with these writes behind the others of its cache.
func waiting(d api.Disk, writes ...api.Pend) api.Disk {
	d = disk.Twin(d)
	d.Cache = append(d.Cache, disk.Twin(api.Disk{Cache: writes}).Cache...)
	return d
}

// crowded is d with so many writes in the cache, those that are new ones none of the areas.
func crowded(d api.Disk, many int) api.Disk {
	d = disk.Twin(d)
	for i := len(d.Cache); i < many; i++ {
		d.Cache = append(d.Cache, api.Pend{At: i % 2, Bytes: text(5, i%256, letters(long, i))})
	}
	return d
}

func crashed(t *testing.T, d api.Disk, fates ...uint8) api.Disk {
	t.Helper()
	out, e := disk.Crash(d, fates)
	if e != api.OK {
		t.Fatalf("Crash(%s, %v): error %d", shown(d), fates, e)
	}
	return out
}

func flushed(t *testing.T, d api.Disk) api.Disk {
	t.Helper()
	out, e := disk.Flush(d)
	if e != api.OK {
		t.Fatalf("Flush(%s): error %d", shown(d), e)
	}
	return out
}

func shown(d api.Disk) string {
	at := []int{}
	for _, p := range d.Cache {
		at = append(at, p.At)
	}
	return fmt.Sprintf("%d sectors, writes of %v", len(d.Sectors), at)
}

func same(a, b [][]byte) bool { return slices.EqualFunc(a, b, bytes.Equal) }

func sameWrite(a, b api.Pend) bool { return a.At == b.At && bytes.Equal(a.Bytes, b.Bytes) }

// startsWith tells whether the notes of a list are those of another one, and maybe more.
func startsWith(l, begin [][]byte) bool { return len(l) >= len(begin) && same(l[:len(begin)], begin) }

func holdText(t *testing.T, gen uint64, n int, b, want []byte, wantE api.Errno) {
	t.Helper()
	l, e := journal.Text(gen, n, b)
	if string(l) != string(want) || e != wantE {
		t.Errorf("Text(%d, %d, %v): %v, error %d; want %v, error %d", gen, n, b, l, e, want, wantE)
	}
}

// holdScan holds that the notes are these, or that this error is told, and nothing beside.
func holdScan(t *testing.T, c api.Config, d api.Disk, area int, gen uint64, want [][]byte, wantE api.Errno) {
	t.Helper()
	l, e := journal.Scan(c, d, area, gen)
	if !same(l, want) || e != wantE {
		t.Errorf("Scan(%v, %s, %d, %d): %v, error %d; want %v, error %d", c, shown(d), area, gen, l, e, want, wantE)
	}
}

func holdPlan(t *testing.T, c api.Config, d api.Disk, area int, gen uint64, n int, b []byte, want api.Pend, wantE api.Errno) {
	t.Helper()
	p, e := journal.Plan(c, d, area, gen, n, b)
	if !sameWrite(p, want) || e != wantE {
		t.Errorf("Plan(%v, %s, %d, %d, %d, %v): %v, error %d; want %v, error %d", c, shown(d), area, gen, n, b, p, e, want, wantE)
	}
}

// holdAll holds that all calls answer what the chapter's words say, whatever is asked.
func holdAll(t *testing.T, c api.Config, d api.Disk, area int, gen uint64, n int, b []byte) {
	t.Helper()
	made, e := toldText(gen, n, b)
	holdText(t, gen, n, b, made, e)
	l, e := toldScan(c, d, area, gen)
	holdScan(t, c, d, area, gen, l, e)
	p, e := toldPlan(c, d, area, gen, n, b)
	holdPlan(t, c, d, area, gen, n, b, p, e)
}

// refuseDisk holds that Scan and Plan tell ErrBad, whatever else is right or wrong.
func refuseDisk(t *testing.T, c api.Config, d api.Disk) {
	t.Helper()
	for _, area := range []int{0, 1, -1, 2, math.MaxInt, math.MinInt} {
		for _, gen := range []uint64{0, 5, math.MaxUint64} {
			holdScan(t, c, d, area, gen, nil, api.ErrBad)
			for _, n := range []int{0, 3, -1, c.Area, 256, math.MaxInt} {
				holdPlan(t, c, d, area, gen, n, letters(3, 1), api.Pend{}, api.ErrBad)
				holdPlan(t, c, d, area, gen, n, nil, api.Pend{}, api.ErrBad)
			}
		}
	}
}

func mustPlan(t *testing.T, c api.Config, d api.Disk, area int, gen uint64, n int, b []byte) api.Pend {
	t.Helper()
	p, e := journal.Plan(c, d, area, gen, n, b)
	if e != api.OK {
		t.Fatalf("Plan(%v, %s, %d, %d, %d, %v): error %d", c, shown(d), area, gen, n, b, e)
	}
	return p
}

func mustScan(t *testing.T, c api.Config, d api.Disk, area int, gen uint64) [][]byte {
	t.Helper()
	l, e := journal.Scan(c, d, area, gen)
	if e != api.OK {
		t.Fatalf("Scan(%v, %s, %d, %d): error %d", c, shown(d), area, gen, e)
	}
	return l
}

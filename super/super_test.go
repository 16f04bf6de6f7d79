package super_test

import (
	"bytes"
	"encoding/binary"
	"math"
	"math/rand/v2"
	"slices"
	"sync"
	"testing"

	"catamaran/api"
	"catamaran/cell"
	"catamaran/disk"
	"catamaran/super"
	"catamaran/track"
)

// The chapter's examples.
func TestExamples(t *testing.T) {
	c, d := sample(), bare(sample())
	holdRead(t, c, d, api.Super{}, api.OK)
	p := mustPlan(t, c, d, api.Super{Boot: 3, Area: 1, Gen: 65537})
	if p.At != 0 || !bytes.Equal(p.Bytes[8:21], []byte{0, 0, 0, 3, 1, 0, 0, 0, 0, 0, 1, 0, 1}) {
		t.Errorf("the write %v", p)
	}
	holdPlan(t, c, d, api.Super{Boot: 3, Area: 2, Gen: 65537}, nil, api.ErrArg)
}

// The same write, byte by byte.
func TestExampleBytes(t *testing.T) {
	c, d := sample(), bare(sample())
	want := api.Pend{At: 0, Bytes: []byte{0, 0, 0, 1, 0, 13, 0, 0, 0, 0, 0, 3, 1, 0, 0, 0, 0, 0, 1, 0, 1, 0, 0, 0, 0, 0, 0, 0, 0, 0, 0, 0}}
	s := api.Super{Boot: 3, Area: 1, Gen: 65537}
	holdPlan(t, c, d, s, []api.Pend{want}, api.OK)
	d = flushed(t, waiting(d, want))
	holdRead(t, c, d, s, api.OK)
	want = api.Pend{At: 1, Bytes: []byte{0, 0, 0, 2, 0, 13, 0, 0, 1, 2, 3, 4, 0, 5, 6, 7, 8, 9, 10, 11, 12, 0, 0, 0, 0, 0, 0, 0, 0, 0, 0, 0}}
	s = api.Super{Boot: 0x01020304, Area: 0, Gen: 0x05060708090a0b0c}
	holdPlan(t, c, d, s, []api.Pend{want}, api.OK)
	holdRead(t, c, waiting(d, want), s, api.OK)
}

// The errors' numbers, which the document names.
func TestNumbers(t *testing.T) {
	for e, want := range map[api.Errno]int{api.OK: 0, api.ErrArg: 2, api.ErrBad: 8, api.ErrFull: 9, api.ErrBusy: 60, api.ErrSuper: 90} {
		if int(e) != want {
			t.Errorf("the error %d, want %d", e, want)
		}
	}
}

// P9.1, P9.2: each super at the edges is written as its row, and its row is read as it, of whichever slot.
func TestSupers(t *testing.T) {
	c := sample()
	for _, s := range supers() {
		for _, d := range []api.Disk{bare(c), cellOf(slot(4, row(s))), cellOf(slot(4, row(one())), slot(5, row(s)))} {
			holdAll(t, c, d, s)
			mustPlan(t, c, d, s)
		}
		holdRead(t, c, cellOf(slot(4, row(s))), s, api.OK)
		holdRead(t, c, cellOf(slot(4, row(one())), slot(5, row(s))), s, api.OK)
		holdRead(t, c, cellOf(make([]byte, size), slot(1, row(s))), s, api.OK)
	}
}

// P9.1, P9.2: each bit of Boot and Gen has its place.
func TestBits(t *testing.T) {
	c, d := sample(), bare(sample())
	hold := func(s api.Super, at int, bit byte) {
		want := make([]byte, long)
		want[at] = bit
		holdPlan(t, c, d, s, []api.Pend{{At: 0, Bytes: slot(1, want)}}, api.OK)
		holdRead(t, c, cellOf(slot(1, want)), s, api.OK)
	}
	hold(api.Super{}, 0, 0)
	hold(api.Super{Area: 1}, 4, 1)
	for i := range 32 {
		hold(api.Super{Boot: 1 << i}, 3-i/8, 1<<(i%8))
	}
	for i := range 64 {
		hold(api.Super{Gen: 1 << i}, 12-i/8, 1<<(i%8))
	}
}

// P9.2: but an area that is 0 or 1, whatever Boot and Gen are.
func TestArea(t *testing.T) {
	c := sample()
	for _, area := range wrongAreas() {
		for _, d := range []api.Disk{bare(c), filled(c), cellOf(slot(7, row(one()))), crowded(bare(c), room)} {
			for _, s := range []api.Super{{}, one(), {Boot: top, Gen: math.MaxUint64}} {
				s.Area = area
				holdPlan(t, c, d, s, nil, api.ErrArg)
			}
		}
	}
	for area := -300; area <= 300; area++ {
		holdAll(t, c, filled(c), api.Super{Boot: 3, Area: area, Gen: 65537})
	}
}

// P9.1: a row whose area is each byte that there is: but 0 and 1 are none of a super that may be.
func TestHeldArea(t *testing.T) {
	c := sample()
	for _, s := range []api.Super{{}, one(), {Boot: top, Gen: math.MaxUint64}} {
		for area := range 256 {
			s.Area = area
			want, wantE := s, api.OK
			if area > 1 {
				want, wantE = api.Super{}, api.ErrSuper
			}
			holdHeld(t, row(s), want, wantE)
		}
	}
	holdRead(t, c, cellOf(slot(1, row(one()))), one(), api.OK)
}

// holdHeld holds what is read where the cell holds b, of whichever slot, and whatever the other one has, if that is older.
func holdHeld(t *testing.T, b []byte, want api.Super, wantE api.Errno) {
	t.Helper()
	c, older := sample(), slot(1, row(two()))
	for _, d := range []api.Disk{
		cellOf(slot(2, b)), cellOf(make([]byte, size), slot(2, b)), cellOf(nil, slot(2, b)), cellOf(slot(2, b), nil),
		cellOf(older, slot(2, b)), cellOf(slot(2, b), older), cellOf(slot(2, b), slot(2, row(two()))), cellOf(slot(top, b)),
	} {
		holdRead(t, c, d, want, wantE)
		holdAll(t, c, d, next())
	}
}

// P9.1: a cell that holds nothing, and one that holds too few bytes, or too many; also none.
func TestHeldLength(t *testing.T) {
	c := sample()
	for _, d := range []api.Disk{bare(c), filled(c), cellOf(nil, nil), cellOf(nil), cellOf(slot(0, row(one()))), crowded(filled(c), room)} {
		holdRead(t, c, d, api.Super{}, api.OK)
	}
	all := append(row(one()), row(two())...)
	for many := range part + 1 {
		if many == long {
			holdHeld(t, all[:many], one(), api.OK)
			holdHeld(t, make([]byte, many), api.Super{}, api.OK)
			continue
		}
		holdHeld(t, all[:many], api.Super{}, api.ErrSuper)
		holdHeld(t, make([]byte, many), api.Super{}, api.ErrSuper)
		holdHeld(t, bytes.Repeat([]byte{1}, many), api.Super{}, api.ErrSuper)
	}
}

// P9.1, P9.2: whatever stands in the cell: what it holds is of the greater version of both slots, and what is written goes to the other one.
func TestCells(t *testing.T) {
	c := sample()
	for name, d := range cells() {
		holdAll(t, c, d, next())
		if t.Failed() {
			t.Fatal(name)
		}
	}
	holdRead(t, c, cellOf(slot(7, row(one())), slot(5, row(two()))), one(), api.OK)
	holdRead(t, c, cellOf(slot(7, row(one())), slot(7, row(two()))), one(), api.OK)
	holdRead(t, c, cellOf(slot(7, row(one())), slot(256, row(two()))), two(), api.OK)
	holdRead(t, c, cellOf(slot(7, row(one())), slot(9, row(two())[:12])), api.Super{}, api.ErrSuper)
	torn := slot(9, row(two()))
	torn[31] = 1 // a rest that is no noughts: the slot does not count
	holdRead(t, c, cellOf(slot(7, row(one())), torn), one(), api.OK)
	holdRead(t, c, cellOf(torn), api.Super{}, api.OK)
}

// P9.1: the cell is that of width 1 at sector 0: no other sector counts.
func TestOtherSectors(t *testing.T) {
	for _, c := range configs() {
		for _, b := range [][]byte{slot(9, row(two())), slot(top, row(two())), bytes.Repeat([]byte{255}, size), make([]byte, size)} {
			d := bare(c)
			d.Sectors[1].Bytes = slot(7, row(one()))
			for i := 2; i < len(d.Sectors); i++ {
				d.Sectors[i].Bytes = b
			}
			holdRead(t, c, d, one(), api.OK)
			holdPlan(t, c, d, next(), []api.Pend{{At: 0, Bytes: slot(8, row(next()))}}, api.OK)
			for i := 2; i < len(d.Sectors); i++ {
				d.Sectors[i] = api.Sector{Bytes: make([]byte, size), Bad: true}
			}
			holdRead(t, c, d, one(), api.OK)
			holdPlan(t, c, d, next(), []api.Pend{{At: 0, Bytes: slot(8, row(next()))}}, api.OK)
		}
	}
}

// P9.1: sectors count as they are read: by the last write in the cache, else by themselves.
func TestAsRead(t *testing.T) {
	c := sample()
	for name, d := range cells() {
		for at := range 2 {
			good := api.Pend{At: at, Bytes: slot(40, row(next()))}
			bad := api.Pend{At: at, Bytes: slot(41, row(one())[:12])}
			torn := api.Pend{At: at, Bytes: make([]byte, size)}
			holdRead(t, c, waiting(d, good), next(), api.OK)
			holdRead(t, c, waiting(d, torn, bad, good), next(), api.OK)
			holdRead(t, c, crowded(waiting(d, good), room), next(), api.OK)
			holdRead(t, c, waiting(d, good, bad), api.Super{}, api.ErrSuper)
			for _, x := range []api.Disk{waiting(d, good), waiting(d, good, bad), waiting(d, good, torn), waiting(d, torn)} {
				holdAll(t, c, x, two())
			}
		}
		if t.Failed() {
			t.Fatal(name)
		}
	}
}

// P9.2: a write of one of the cell's sectors that waits, of whichever slot; of any other sector it counts for nothing.
func TestBusy(t *testing.T) {
	c := sample()
	d := cellOf(slot(7, row(one())))
	for at := range d.Sectors {
		x := waiting(d, api.Pend{At: at, Bytes: d.Sectors[at].Bytes})
		holdRead(t, c, x, one(), api.OK)
		for _, many := range []int{1, 2, room} {
			x := crowded(x, many)
			if at < 2 {
				holdPlan(t, c, x, next(), nil, api.ErrBusy)
				continue
			}
			holdPlan(t, c, x, next(), []api.Pend{{At: 1, Bytes: slot(8, row(next()))}}, api.OK)
		}
	}
	for _, c := range configs() { // what was planned waits, till it is flushed, or lost
		d := waiting(bare(c), mustPlan(t, c, bare(c), one()))
		holdPlan(t, c, d, next(), nil, api.ErrBusy)
		mustPlan(t, c, flushed(t, d), next())
		mustPlan(t, c, crashed(t, d), next())
	}
}

// P9.2: behind the greatest count there is no version more, whichever sector has it; the super is read.
func TestLastCount(t *testing.T) {
	c := sample()
	for at := range 2 {
		for _, count := range []uint32{7, 8, 255, 256, 1<<24 - 1, 1 << 31, top - 1, top} {
			d := cellOf(slot(7, row(one())), slot(7, row(one())))
			binary.BigEndian.PutUint32(d.Sectors[at].Bytes, count)
			holdAll(t, c, d, next())
			holdRead(t, c, d, one(), api.OK)
			if count == top {
				holdPlan(t, c, d, next(), nil, api.ErrFull)
				continue
			}
			if p := mustPlan(t, c, d, next()); binary.BigEndian.Uint32(p.Bytes) != count+1 {
				t.Errorf("behind the count %d: %v", count, p)
			}
		}
		d := cellOf(slot(7, row(one())), make([]byte, size))
		d.Sectors[at].Bytes = bytes.Repeat([]byte{255}, size) // no text, but a count
		holdPlan(t, c, d, next(), nil, api.ErrFull)
	}
	d := cellOf(slot(top-1, row(one())))
	d = flushed(t, waiting(d, mustPlan(t, c, d, next())))
	holdRead(t, c, d, next(), api.OK)
	holdPlan(t, c, d, one(), nil, api.ErrFull)
}

// P9.2: Plan asks for no room in the cache; what it tells has room in one of 62 and 63 writes.
func TestRoom(t *testing.T) {
	c := sample()
	for name, d := range cells() {
		want := mustPlan(t, c, d, next())
		for _, many := range []int{0, 1, 62, 63, 64} {
			x := crowded(d, many)
			holdPlan(t, c, x, next(), []api.Pend{want}, api.OK)
			y, e := disk.Write(x, want.At, want.Bytes)
			if (e == api.ErrFull) != (many == room) {
				t.Fatalf("%s: behind %d writes: error %d", name, many, e)
			}
			if e == api.OK {
				holdRead(t, c, y, next(), api.OK)
				holdPlan(t, c, y, next(), nil, api.ErrBusy)
			}
		}
	}
}

// P9.2: what is planned is what cell plans, of the row, for a cell of width 1 at sector 0.
func TestAsCell(t *testing.T) {
	c := sample()
	for name, d := range cells() {
		for _, x := range []api.Disk{d, crowded(d, room), waiting(d, api.Pend{At: 1, Bytes: make([]byte, size)})} {
			want, wantE := cell.Plan(x, 0, 1, row(next()))
			holdPlan(t, c, x, next(), want, wantE)
		}
		if t.Failed() {
			t.Fatal(name)
		}
	}
}

// P9.1, P9.2: a disk that has as many sectors as the config's, and those that have one less, one more, or far too few or many.
func TestSectors(t *testing.T) {
	for _, c := range configs() {
		for _, n := range []int{0, 1, 2, 3, many(c) - 2, many(c) - 1, many(c) + 1, many(c) + 2, many(c) + 4, 1024} {
			d := bare(c)
			d.Sectors[0].Bytes = slot(7, row(one()))
			holdAll(t, c, d, next())
			d.Sectors = d.Sectors[:min(n, len(d.Sectors))]
			for len(d.Sectors) < n {
				d.Sectors = append(d.Sectors, api.Sector{Bytes: make([]byte, size)})
			}
			refuseDisk(t, c, d)
		}
	}
}

// P9.1, P9.2: a config and a disk of another one: what counts is how many sectors it has.
func TestOtherConfig(t *testing.T) {
	for _, a := range configs() {
		for _, b := range configs() {
			holdAll(t, a, filled(b), one())
			if many(a) != many(b) {
				refuseDisk(t, a, filled(b))
			}
		}
	}
}

// P9.1, P9.2: configs that may not be, each for one field's sake, with disks of sizes that would fit.
func TestWrongConfig(t *testing.T) {
	fields := map[string]func(c *api.Config) *int{
		"Pairs":  func(c *api.Config) *int { return &c.Pairs },
		"Tracks": func(c *api.Config) *int { return &c.Tracks },
		"Area":   func(c *api.Config) *int { return &c.Area },
		"Most":   func(c *api.Config) *int { return &c.Most },
		"Window": func(c *api.Config) *int { return &c.Window },
		"Quiet":  func(c *api.Config) *int { return &c.Quiet },
	}
	beside := map[string][]int{"Pairs": {0, 4, 1}, "Tracks": {0, 17}, "Area": {3, 33}, "Most": {0, 3}, "Window": {0, 5}, "Quiet": {3, 65}}
	for name, field := range fields {
		for _, wrong := range append(beside[name], math.MaxInt, math.MinInt, -1) {
			c := sample()
			*field(&c) = wrong
			refuseDisk(t, c, bare(sample()))
			if fits := many(c); fits > 0 && fits <= 1024 {
				refuseDisk(t, c, bare(c))
			}
			refuseDisk(t, c, api.Disk{})
		}
	}
	refuseDisk(t, api.Config{}, api.Disk{})
	refuseDisk(t, api.Config{}, bare(sample()))
}

// P9.1, P9.2: disks that may not be, for the sake of one thing each.
func TestWrongDisk(t *testing.T) {
	refuse := func(turn func(d *api.Disk)) {
		t.Helper()
		d := cellOf(slot(7, row(one())))
		turn(&d)
		refuseDisk(t, sample(), d)
	}
	for _, at := range []int{0, 1, 2, 6, 85} { // the super's, an area's, the last one
		refuse(func(d *api.Disk) { d.Sectors[at].Bytes = make([]byte, size-1) })
		refuse(func(d *api.Disk) { d.Sectors[at].Bytes = make([]byte, size+1) })
		refuse(func(d *api.Disk) { d.Sectors[at].Bytes = nil })
		refuse(func(d *api.Disk) { d.Sectors[at] = api.Sector{Bytes: slot(7, row(one())), Bad: true} })
		refuse(func(d *api.Disk) { d.Cache = []api.Pend{{At: at, Bytes: make([]byte, size-1)}} })
		refuse(func(d *api.Disk) { d.Cache = []api.Pend{{At: at}} })
	}
	refuse(func(d *api.Disk) { *d = crowded(*d, room+1) })
	for _, at := range []int{-1, 86, 1024, math.MinInt, math.MaxInt} {
		refuse(func(d *api.Disk) { d.Cache = []api.Pend{{At: at, Bytes: make([]byte, size)}} })
	}
}

// asked is what is handed in.
type asked struct {
	c api.Config
	d api.Disk
	s api.Super
}

// fault is something wrong of what is handed in, and what is told of it by which calls.
type fault struct {
	e     api.Errno
	calls string // r: Read, p: Plan
	turn  func(a *asked)
}

// faults are in the order in which the chapter names their errors. No write waits in the cache of the cell's sectors but that of the fault of ErrBusy, which is of the slot that does not count.
func faults() []fault {
	return []fault{
		{api.ErrBad, "rp", func(a *asked) { a.c.Quiet = 3 }},
		{api.ErrBad, "rp", func(a *asked) { a.d.Sectors[5].Bytes = nil }},
		{api.ErrBad, "rp", func(a *asked) { a.d = crowded(a.d, room+1) }},
		{api.ErrBad, "rp", func(a *asked) { a.d.Sectors = append(a.d.Sectors, api.Sector{Bytes: make([]byte, size)}) }},
		{api.ErrArg, "p", func(a *asked) { a.s.Area = 2 }},
		{api.ErrSuper, "r", func(a *asked) { a.d.Sectors[0].Bytes = slot(2, row(one())[:12]) }},
		{api.ErrBusy, "p", func(a *asked) { a.d.Cache = append(a.d.Cache, api.Pend{At: 1, Bytes: make([]byte, size)}) }},
		{api.ErrFull, "p", func(a *asked) { binary.BigEndian.PutUint32(a.d.Sectors[0].Bytes, top) }},
	}
}

// P1, P9.1, P9.2: of several errors the one named first is told, of all of them together.
func TestFirstError(t *testing.T) {
	all := faults()
	for which := range 1 << len(all) {
		a := asked{sample(), cellOf(slot(1, row(one()))), next()}
		told := map[rune]api.Errno{}
		for i, f := range all {
			if which>>i&1 == 0 {
				continue
			}
			f.turn(&a)
			for _, call := range f.calls {
				if told[call] == api.OK {
					told[call] = f.e
				}
			}
		}
		if s, e := super.Read(a.c, a.d); e != told['r'] || e != api.OK && s != (api.Super{}) {
			t.Errorf("the faults %b: Read: %v, error %d; want %d", which, s, e, told['r'])
		}
		if l, e := super.Plan(a.c, a.d, a.s); e != told['p'] || e != api.OK && len(l) != 0 {
			t.Errorf("the faults %b: Plan: %v, error %d; want %d", which, l, e, told['p'])
		}
		holdAll(t, a.c, a.d, a.s)
	}
}

const behind = "----"

// handed is d in other memory, all lists of which have more behind their ends.
func handed(d api.Disk) api.Disk {
	roomy := func(b []byte) []byte { return append(bytes.Clone(b), behind...)[:len(b)] }
	d = disk.Twin(d)
	for i := range d.Sectors {
		d.Sectors[i].Bytes = roomy(d.Sectors[i].Bytes)
	}
	for i := range d.Cache {
		d.Cache[i].Bytes = roomy(d.Cache[i].Bytes)
	}
	d.Sectors = append(d.Sectors, api.Sector{Bytes: roomy(nil)})[:len(d.Sectors)]
	d.Cache = append(d.Cache, api.Pend{At: -7}, api.Pend{At: -7})[:len(d.Cache)]
	return d
}

// isAsHanded tells whether all of d is as handed made it.
func isAsHanded(d, want api.Disk) bool {
	for _, b := range append(partsOf(d), d.Sectors[:len(d.Sectors)+1][len(d.Sectors)].Bytes) {
		if string(b[len(b):len(b)+len(behind)]) != behind {
			return false
		}
	}
	for _, p := range d.Cache[len(d.Cache) : len(d.Cache)+2] {
		if p.At != -7 || p.Bytes != nil {
			return false
		}
	}
	return disk.Same(d, want)
}

func partsOf(d api.Disk) [][]byte {
	var l [][]byte
	for _, s := range d.Sectors {
		l = append(l, s.Bytes)
	}
	for _, p := range d.Cache {
		l = append(l, p.Bytes)
	}
	return l
}

// spoil turns each byte, also those in the capacities.
func spoil(parts ...[]byte) {
	for _, b := range parts {
		b = b[:cap(b)]
		for i := range b {
			b[i] += 99
		}
	}
}

// P9.3: what is handed in is as it was, also behind its end; also where the calls tell an error.
func TestOnlyRead(t *testing.T) {
	c := sample()
	wrong := next()
	wrong.Area = 2
	for name, want := range cells() {
		for _, many := range []int{0, 3, 62, 63, 64} {
			for _, want := range []api.Disk{crowded(want, many), crowded(waiting(want, api.Pend{At: 1, Bytes: slot(30, row(two()))}), max(many, 1))} {
				d := handed(want)
				super.Read(c, d)
				super.Plan(c, d, next())
				super.Plan(c, d, wrong)
				super.Read(config(1, 1, 3), d)
				super.Plan(config(1, 1, 3), d, next())
				if !isAsHanded(d, want) {
					t.Errorf("%s, %d writes: what was handed in is another one", name, many)
				}
			}
		}
	}
}

// P9.3: a change of an answer changes no other one, nor what was handed in; a change of that changes no answer.
func TestNewMemory(t *testing.T) {
	c := sample()
	for name, want := range cells() {
		for _, many := range []int{0, 1, 64} {
			want := crowded(want, many)
			d := handed(want)
			plan := func() []api.Pend {
				l, e := super.Plan(c, d, next())
				if e != api.OK || len(l) != 1 {
					t.Fatalf("%s: %v, error %d", name, l, e)
				}
				return l
			}
			first, second := plan(), plan()
			kept := disk.Twin(api.Disk{Cache: second}).Cache
			was, wasE := super.Read(c, d)
			spoil(first[0].Bytes)
			clear(first[:cap(first)])
			if !alikeWrites(second, kept) || !alikeWrites(plan(), kept) || !isAsHanded(d, want) {
				t.Fatalf("%s: what Plan answers shares memory", name)
			}
			holdRead(t, c, d, was, wasE)
			spoil(partsOf(d)...)
			clear(d.Sectors)
			clear(d.Cache[:cap(d.Cache)])
			if !alikeWrites(second, kept) {
				t.Fatalf("%s: what Plan answers shares memory with what was handed in", name)
			}
		}
	}
}

// holdOthers holds that all sectors but those of the super's cell are read as they were, and so are all tracks.
func holdOthers(t *testing.T, c api.Config, was, now api.Disk) {
	t.Helper()
	for at := 2; at < len(was.Sectors); at++ {
		if !bytes.Equal(read(was, at), read(now, at)) {
			t.Fatalf("the sector %d is another one", at)
		}
	}
	for pair := range c.Pairs {
		want, wantE := track.Volume(c, was, pair)
		if l, e := track.Volume(c, now, pair); !slices.EqualFunc(l, want, bytes.Equal) || e != wantE {
			t.Fatalf("the volume of pair %d is another one", pair)
		}
	}
}

// P9.4: what was written is read, in the cache, and flushed; all else stays.
func TestWrittenIsRead(t *testing.T) {
	for _, c := range configs() {
		for _, d := range []api.Disk{bare(c), filled(c)} {
			for _, s := range []api.Super{{}, {Area: 1}, one(), two(), {Boot: top, Area: 1, Gen: math.MaxUint64}} {
				x := waiting(d, mustPlan(t, c, d, s))
				for _, y := range []api.Disk{x, flushed(t, x), crashed(t, x, api.FateDone)} {
					holdRead(t, c, y, s, api.OK)
					holdOthers(t, c, d, y)
				}
			}
		}
	}
}

// P9.4: all supers at the edges, one behind the other on one disk.
func TestAllWritten(t *testing.T) {
	c := sample()
	d := filled(c)
	for _, s := range supers() {
		d = waiting(d, mustPlan(t, c, d, s))
		holdRead(t, c, d, s, api.OK)
		d = flushed(t, d)
		holdRead(t, c, d, s, api.OK)
	}
}

// P9.4: whatever stands in the cell, behind a crash with the write in the cache, at each fate: the super is the one that was, or, where that is done, and then alone, the one that was to be written.
func TestCrash(t *testing.T) {
	c := sample()
	for name, d := range cells() {
		was, wasE := super.Read(c, d)
		p := mustPlan(t, c, d, next())
		holdRead(t, c, crashed(t, waiting(d, p)), was, wasE)
		for _, fate := range []uint8{0, 1, 2, 3, 4, 5, 254, 255} {
			y := crashed(t, waiting(d, p), fate)
			if fate%3 == api.FateDone {
				holdRead(t, c, y, next(), api.OK)
			} else {
				holdRead(t, c, y, was, wasE)
			}
			holdRead(t, c, waiting(y, mustPlan(t, c, y, two())), two(), api.OK)
			holdOthers(t, c, d, y)
		}
		if t.Failed() {
			t.Fatal(name)
		}
	}
}

// P9.4: the same at the first and the last of several writes in the cache, of each config.
func TestCrashAmongOthers(t *testing.T) {
	for _, c := range configs() {
		d := filled(c)
		d.Sectors[1].Bytes = slot(7, row(one()))
		p := mustPlan(t, c, d, next())
		for _, ahead := range []int{0, 1, 2, 62, 63} {
			x := crowded(waiting(crowded(d, ahead), p), room)
			for fate := range uint8(3) {
				for other := range uint8(3) {
					fates := bytes.Repeat([]byte{other}, room)
					fates[ahead] = fate
					want := one()
					if fate == api.FateDone {
						want = next()
					}
					holdRead(t, c, crashed(t, x, fates...), want, api.OK)
				}
			}
		}
	}
}

// P9.4: over long runs of writes, flushes and crashes: the super is the one that was, or the one that was to be written.
func TestLongRuns(t *testing.T) {
	r := seeded(1)
	for _, c := range configs() {
		d := bare(c)
		had, now := api.Super{}, api.Super{}
		for range 200 {
			switch k := r.IntN(10); {
			case k < 6:
				s := anySuper(r)
				l, e := super.Plan(c, d, s)
				if waits(d) != (e == api.ErrBusy) || !waits(d) && e != api.OK {
					t.Fatalf("Plan(%v, %s, %v): error %d", c, shown(d), s, e)
				}
				if e == api.OK {
					d, now = waiting(d, l...), s
				}
			case k < 8:
				d = flushed(t, d)
				had = now
			default:
				d = crashed(t, d, uint8(r.Uint32()))
				s, e := super.Read(c, d)
				if s != had && s != now || e != api.OK {
					t.Fatalf("%v is read behind a crash, error %d; it was %v, and %v was to be written", s, e, had, now)
				}
				had, now = s, s
			}
			holdRead(t, c, d, now, api.OK)
		}
	}
}

func anySuper(r *rand.Rand) api.Super {
	all := supers()
	if r.IntN(2) == 0 {
		return all[r.IntN(len(all))]
	}
	return api.Super{Boot: r.Uint32(), Area: r.IntN(2), Gen: r.Uint64()}
}

// anySlot is a sector that is the text of a row, or nearly.
func anySlot(r *rand.Rand) []byte {
	s := anySuper(r)
	if r.IntN(5) == 0 {
		s.Area = r.IntN(256)
	}
	b := append(row(s), make([]byte, part-long)...)[:long]
	if r.IntN(5) == 0 {
		b = b[:part][:r.IntN(part+1)]
	}
	t := slot([]uint32{0, 1, 2, 3, 255, 256, top - 1, top}[r.IntN(8)], b)
	if r.IntN(5) == 0 {
		t[r.IntN(size)] = byte(r.Uint32())
	}
	return t
}

// anyDisk is one of a config, of anything.
func anyDisk(r *rand.Rand, c api.Config) api.Disk {
	d := filled(c)
	for at := range 2 {
		d.Sectors[at].Bytes = anySlot(r)
		if r.IntN(8) == 0 {
			d.Sectors[at] = api.Sector{Bytes: make([]byte, size), Bad: true}
		}
	}
	if r.IntN(2) == 0 {
		d = crowded(d, r.IntN(room-2))
	}
	if r.IntN(3) == 0 {
		d = waiting(d, api.Pend{At: r.IntN(2), Bytes: anySlot(r)}, api.Pend{At: r.IntN(3), Bytes: anySlot(r)})
	}
	return d
}

// P1: each call ends, and none panics, whatever comes; the answers are those of the chapter's words.
func TestWhatever(t *testing.T) {
	r := seeded(2)
	all := configs()
	areas := wrongAreas()
	for range 20000 {
		c := all[r.IntN(len(all))]
		d, s := anyDisk(r, c), anySuper(r)
		switch r.IntN(12) {
		case 0:
			s.Area = areas[r.IntN(len(areas))]
		case 1:
			c = all[r.IntN(len(all))]
		case 2:
			c.Tracks, c.Area = r.IntN(20)-1, r.IntN(36)
		case 3:
			d.Sectors[r.IntN(len(d.Sectors))].Bytes = make([]byte, r.IntN(size))
		case 4:
			d.Cache = append(d.Cache, api.Pend{At: areas[r.IntN(len(areas))], Bytes: make([]byte, size)})
		case 5:
			d.Sectors = d.Sectors[:r.IntN(len(d.Sectors))]
		}
		holdAll(t, c, d, s)
		if t.Failed() {
			t.FailNow()
		}
	}
}

// P1: nothing is kept from call to call, whoever calls between.
func TestNothingIsKept(t *testing.T) {
	var all sync.WaitGroup
	for i, c := range []api.Config{sample(), config(1, 1, 3), config(3, 16, 32), sample()} {
		all.Add(1)
		go func() {
			defer all.Done()
			d := bare(c)
			d.Sectors[1].Bytes = slot(7, row(one()))
			for n := range 100 {
				s := api.Super{Boot: uint32(100*i + n), Area: n % 2, Gen: uint64(n)}
				want := []api.Pend{{At: 0, Bytes: slot(8, row(s))}}
				holdPlan(t, c, d, s, want, api.OK)
				holdRead(t, c, waiting(d, want...), s, api.OK)
				holdRead(t, c, d, one(), api.OK)
				s.Area = 2
				holdPlan(t, c, d, s, nil, api.ErrArg)
			}
		}()
	}
	all.Wait()
}

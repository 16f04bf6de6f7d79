package super_test

import (
	"bytes"
	"encoding/binary"
	"fmt"
	"math"
	"math/rand/v2"
	"slices"
	"testing"

	"catamaran/api"
	"catamaran/disk"
	"catamaran/super"
)

const (
	size = 32 // bytes of a sector
	part = 24 // bytes of a part
	long = 13 // bytes of a row
	room = 64 // writes of a cache
	top  = 1<<32 - 1
)

func seeded(seed uint64) *rand.Rand { return rand.New(rand.NewPCG(seed, 9)) }

// config is one that may be, of whose numbers only those that place something are chosen.
func config(pairs, tracks, area int) api.Config {
	return api.Config{Pairs: pairs, Tracks: tracks, Area: area, Most: pairs, Window: 2, Quiet: 8}
}

// sample is the config of the chapter's examples, which is that of chapter 7.
func sample() api.Config { return config(2, 9, 4) }

// configs are those at the edges.
func configs() []api.Config {
	var l []api.Config
	for pairs := 1; pairs <= 3; pairs++ {
		for _, tracks := range []int{1, 8, 9, 16} {
			l = append(l, config(pairs, tracks, pairs+2), config(pairs, tracks, 32))
		}
	}
	return l
}

// many is how many sectors the disk of a config has, by the words of chapter 7.
func many(c api.Config) int {
	pages := (c.Tracks + 7) / 8
	return 2 + 2*c.Area + c.Pairs*pages + c.Pairs*c.Tracks*4
}

// configMay tells whether a config may be, by the words of chapter 7.
func configMay(c api.Config) bool {
	within := func(n, least, most int) bool { return n >= least && n <= most }
	return within(c.Pairs, 1, 3) && within(c.Tracks, 1, 16) && within(c.Area, c.Pairs+2, 32) &&
		within(c.Most, 1, c.Pairs) && within(c.Window, 1, 4) && within(c.Quiet, 4, 64)
}

// may tells whether c may be, and d may be a site's disk, by the words of chapter 8.
func may(c api.Config, d api.Disk) bool {
	return configMay(c) && disk.Check(d) == api.OK && len(d.Sectors) == many(c)
}

// bare is a disk that fits, of noughts.
func bare(c api.Config) api.Disk {
	d := api.Disk{Sectors: make([]api.Sector, many(c))}
	for i := range d.Sectors {
		d.Sectors[i].Bytes = make([]byte, size)
	}
	return d
}

// filled is a disk that fits, whose super's cell has noughts. Its other sectors are of bytes that are none's: who takes one for the cell's has a count of 2^32 - 1.
func filled(c api.Config) api.Disk {
	d := bare(c)
	for i := 2; i < len(d.Sectors); i++ {
		d.Sectors[i].Bytes = bytes.Repeat([]byte{255}, size)
	}
	return d
}

// row is that of a super, by the chapter's words.
func row(s api.Super) []byte {
	b := binary.BigEndian.AppendUint32(nil, s.Boot)
	b = append(b, byte(s.Area))
	return binary.BigEndian.AppendUint64(b, s.Gen)
}

// slot is the sector of a slot that holds b, by the words of chapter 6.
func slot(version uint32, b []byte) []byte {
	t := binary.BigEndian.AppendUint32(nil, version)
	t = append(t, 0, byte(len(b)), 0, 0)
	t = append(t, b...)
	return append(t, make([]byte, size-len(t))...)
}

// cellOf is a filled disk of the examples' config, of whose super's cell these are the slots; a nil one is Bad.
func cellOf(slots ...[]byte) api.Disk {
	d := filled(sample())
	for i, t := range slots {
		if t == nil {
			d.Sectors[i] = api.Sector{Bytes: make([]byte, size), Bad: true}
			continue
		}
		d.Sectors[i].Bytes = bytes.Clone(t)
	}
	return d
}

// supers are those at the edges.
func supers() []api.Super {
	var l []api.Super
	for _, boot := range []uint32{0, 1, 255, 256, 1<<20 - 1, 1 << 20, 1<<31 - 1, 1 << 31, top - 1, top} {
		for area := range 2 {
			for _, gen := range []uint64{0, 1, 255, 256, 65537, top, 1 << 32, 1<<63 - 1, 1 << 63, math.MaxUint64 - 1, math.MaxUint64} {
				l = append(l, api.Super{Boot: boot, Area: area, Gen: gen})
			}
		}
	}
	return l
}

// wrongAreas are those that no super may have, of which many are 0 or 1 in less bits.
func wrongAreas() []int {
	return []int{
		-1, -2, -254, -255, -256, -257, 2, 3, 127, 128, 254, 255, 256, 257, 258, 65535, 65536, 65537,
		top, 1 << 32, 1<<32 + 1, -1 << 32, 1 - 1<<32, math.MinInt32, math.MaxInt32,
		math.MinInt, math.MinInt + 1, math.MaxInt - 1, math.MaxInt,
	}
}

// one, two and next are supers no two bytes of which are the same, but for the areas.
func one() api.Super { return api.Super{Boot: 0x01020304, Area: 1, Gen: 0x05060708090a0b0c} }

func two() api.Super { return api.Super{Boot: 0x11121314, Area: 0, Gen: 0x15161718191a1b1c} }

func next() api.Super { return api.Super{Boot: 0x21222324, Area: 1, Gen: 0x25262728292a2b2c} }

// cells are disks in the ways in which the super's cell may stand there: some hold a super, of one slot or of both, some nothing, some something else.
func cells() map[string]api.Disk {
	turned := func(t []byte, at int) []byte {
		t[at]++
		return t
	}
	wrong := one()
	wrong.Area = 2
	slots := map[string][]byte{
		"noughts":     make([]byte, size),
		"Bad":         nil,
		"one, 7":      slot(7, row(one())),
		"two, 7":      slot(7, row(two())),
		"two, 5":      slot(5, row(two())),
		"one, 1":      slot(1, row(one())),
		"two, 0":      slot(0, row(two())),
		"area 2, 6":   slot(6, row(wrong)),
		"12 bytes, 6": slot(6, row(one())[:12]),
		"14 bytes, 9": slot(9, append(row(one()), 0)),
		"24 bytes, 9": slot(9, bytes.Repeat([]byte{1}, part)),
		"none, 8":     slot(8, nil),
		"part 1, 9":   turned(slot(9, row(one())), 4),
		"not 0, 9":    turned(slot(9, row(one())), 7),
		"a rest, 9":   turned(slot(9, row(one())), 31),
		"a byte, 9":   turned(slot(9, row(one())), 8+long),
	}
	all := map[string]api.Disk{}
	for a, first := range slots {
		for b, second := range slots {
			all[a+" and "+b] = cellOf(first, second)
		}
	}
	return all
}

// read is what is read of a sector, by the words of chapter 5; nil if it can't be.
func read(d api.Disk, at int) []byte {
	for _, p := range slices.Backward(d.Cache) {
		if p.At == at {
			return p.Bytes
		}
	}
	if d.Sectors[at].Bad {
		return nil
	}
	return d.Sectors[at].Bytes
}

// version is that of which a sector is the text of bytes, and these; 0 if it is none.
func version(t []byte) (uint32, []byte) {
	if t == nil || t[5] > part {
		return 0, nil
	}
	n, b := binary.BigEndian.Uint32(t), t[8:8+t[5]]
	if !bytes.Equal(t, slot(n, b)) {
		return 0, nil
	}
	return n, b
}

// held is what the super's cell holds, if anything, and which slot a write takes, by the words of chapter 6.
func held(d api.Disk) (b []byte, is bool, free int) {
	v, a := version(read(d, 0))
	w, b := version(read(d, 1))
	switch {
	case v == 0 && w == 0:
		return nil, false, 0
	case v >= w:
		return a, true, 1
	}
	return b, true, 0
}

// count is that of the super's cell, by the words of chapter 6.
func count(d api.Disk) uint32 {
	var n uint32
	for at := range 2 {
		if t := read(d, at); t != nil {
			n = max(n, binary.BigEndian.Uint32(t))
		}
	}
	return n
}

func waits(d api.Disk) bool {
	return slices.ContainsFunc(d.Cache, func(p api.Pend) bool { return p.At == 0 || p.At == 1 })
}

// toldRead is what Read has to answer.
func toldRead(c api.Config, d api.Disk) (api.Super, api.Errno) {
	if !may(c, d) {
		return api.Super{}, api.ErrBad
	}
	b, is, _ := held(d)
	if !is {
		return api.Super{}, api.OK
	}
	if len(b) != long || b[4] > 1 {
		return api.Super{}, api.ErrSuper
	}
	return api.Super{Boot: binary.BigEndian.Uint32(b), Area: int(b[4]), Gen: binary.BigEndian.Uint64(b[5:])}, api.OK
}

// toldPlan is what Plan has to answer.
func toldPlan(c api.Config, d api.Disk, s api.Super) ([]api.Pend, api.Errno) {
	switch {
	case !may(c, d):
		return nil, api.ErrBad
	case s.Area != 0 && s.Area != 1:
		return nil, api.ErrArg
	case waits(d):
		return nil, api.ErrBusy
	case count(d) == top:
		return nil, api.ErrFull
	}
	_, _, free := held(d)
	return []api.Pend{{At: free, Bytes: slot(count(d)+1, row(s))}}, api.OK
}

// waiting is d with these writes behind the others of its cache.
func waiting(d api.Disk, writes ...api.Pend) api.Disk {
	d = disk.Twin(d)
	d.Cache = append(d.Cache, disk.Twin(api.Disk{Cache: writes}).Cache...)
	return d
}

// crowded is d with so many writes in the cache, those that are new ones none of the super's cell.
func crowded(d api.Disk, many int) api.Disk {
	d = disk.Twin(d)
	for i := len(d.Cache); i < many; i++ {
		d.Cache = append(d.Cache, api.Pend{At: 2 + i%2, Bytes: bytes.Repeat([]byte{byte(i)}, size)})
	}
	return d
}

func crashed(t *testing.T, d api.Disk, fates ...uint8) api.Disk {
	t.Helper()
	out, e := disk.Crash(d, fates)
	if e != api.OK {
		t.Fatalf("Crash(%s, %v): error %d", shown(d), fates, e)
	}
	return out
}

func flushed(t *testing.T, d api.Disk) api.Disk {
	t.Helper()
	out, e := disk.Flush(d)
	if e != api.OK {
		t.Fatalf("Flush(%s): error %d", shown(d), e)
	}
	return out
}

func shown(d api.Disk) string {
	at := []int{}
	for _, p := range d.Cache {
		at = append(at, p.At)
	}
	s := fmt.Sprintf("%d sectors, writes of %v", len(d.Sectors), at)
	for i, x := range d.Sectors[:min(2, len(d.Sectors))] {
		s += fmt.Sprintf(", %d: %v %v", i, x.Bytes, x.Bad)
	}
	return s
}

func alikeWrites(a, b []api.Pend) bool { return disk.Same(api.Disk{Cache: a}, api.Disk{Cache: b}) }

// holdRead holds that the super is that one, or that this error is told, and nothing beside.
func holdRead(t *testing.T, c api.Config, d api.Disk, want api.Super, wantE api.Errno) {
	t.Helper()
	s, e := super.Read(c, d)
	if s != want || e != wantE {
		t.Errorf("Read(%v, %s): %v, error %d; want %v, error %d", c, shown(d), s, e, want, wantE)
	}
}

func holdPlan(t *testing.T, c api.Config, d api.Disk, s api.Super, want []api.Pend, wantE api.Errno) {
	t.Helper()
	l, e := super.Plan(c, d, s)
	if !alikeWrites(l, want) || e != wantE {
		t.Errorf("Plan(%v, %s, %v): %v, error %d; want %v, error %d", c, shown(d), s, l, e, want, wantE)
	}
}

// holdAll holds that both calls answer what the chapter's words say, whatever is asked.
func holdAll(t *testing.T, c api.Config, d api.Disk, s api.Super) {
	t.Helper()
	was, e := toldRead(c, d)
	holdRead(t, c, d, was, e)
	l, e := toldPlan(c, d, s)
	holdPlan(t, c, d, s, l, e)
}

// refuseDisk holds that both calls tell ErrBad, whatever else is right or wrong.
func refuseDisk(t *testing.T, c api.Config, d api.Disk) {
	t.Helper()
	holdRead(t, c, d, api.Super{}, api.ErrBad)
	for _, area := range append(wrongAreas(), 0, 1) {
		holdPlan(t, c, d, api.Super{Boot: 3, Area: area, Gen: 65537}, nil, api.ErrBad)
	}
}

func mustPlan(t *testing.T, c api.Config, d api.Disk, s api.Super) api.Pend {
	t.Helper()
	l, e := super.Plan(c, d, s)
	if e != api.OK || len(l) != 1 {
		t.Fatalf("Plan(%v, %s, %v): %v, error %d", c, shown(d), s, l, e)
	}
	return l[0]
}

package disk_test

import (
	"bytes"
	"fmt"
	"math"
	"math/rand/v2"
	"slices"
	"strings"
	"testing"

	"catamaran/api"
	"catamaran/disk"
)

const (
	size = 32   // bytes of a sector
	most = 1024 // sectors of a disk
	room = 64   // writes of a cache
)

func seeded(seed uint64) *rand.Rand { return rand.New(rand.NewPCG(seed, 5)) }

// text is a sector's bytes of which no two are the same.
func text(n int) []byte { return fmt.Appendf(nil, "%032d", n) }

func full(c byte) []byte { return bytes.Repeat([]byte{c}, size) }

func nought() []byte { return make([]byte, size) }

func badSector() api.Sector { return api.Sector{Bytes: nought(), Bad: true} }

// laid is a disk of so many sectors, no two of which are the same, with an empty cache.
func laid(many int) api.Disk {
	var d api.Disk
	for i := range many {
		d.Sectors = append(d.Sectors, api.Sector{Bytes: text(i)})
	}
	return d
}

// waiting is d with so many writes in its cache, no two of which are the same; they go round its sectors.
func waiting(d api.Disk, many int) api.Disk {
	d = cloned(d)
	for i := range many {
		d.Cache = append(d.Cache, api.Pend{At: i * 7 % len(d.Sectors), Bytes: text(1000000 + i)})
	}
	return d
}

// each hands on disks of sizes and caches that stand at an edge, all of which may be.
func each(f func(d api.Disk)) {
	for _, many := range []int{1, 2, 3, 40} {
		for _, writes := range []int{0, 1, 2, room - 1, room} {
			f(waiting(laid(many), writes))
			spotted := laid(many)
			spotted.Sectors[many/2] = badSector()
			f(waiting(spotted, writes))
		}
	}
	for _, many := range []int{most - 1, most} {
		f(laid(many))
		f(waiting(laid(many), room))
	}
}

// cloned is d in other memory, sector by sector and write by write.
func cloned(d api.Disk) api.Disk {
	var out api.Disk
	for _, s := range d.Sectors {
		out.Sectors = append(out.Sectors, api.Sector{Bytes: bytes.Clone(s.Bytes), Bad: s.Bad})
	}
	for _, p := range d.Cache {
		out.Cache = append(out.Cache, api.Pend{At: p.At, Bytes: bytes.Clone(p.Bytes)})
	}
	return out
}

// alike tells whether all of a and b is the same.
func alike(a, b api.Disk) bool {
	if len(a.Sectors) != len(b.Sectors) || len(a.Cache) != len(b.Cache) {
		return false
	}
	for i, s := range a.Sectors {
		if s.Bad != b.Sectors[i].Bad || string(s.Bytes) != string(b.Sectors[i].Bytes) {
			return false
		}
	}
	for i, p := range a.Cache {
		if p.At != b.Cache[i].At || string(p.Bytes) != string(b.Cache[i].Bytes) {
			return false
		}
	}
	return true
}

// shown is d for a test's message, without the rest of long parts.
func shown(d api.Disk) string {
	var b strings.Builder
	fmt.Fprintf(&b, "%d sectors (", len(d.Sectors))
	for _, s := range d.Sectors[:min(len(d.Sectors), 4)] {
		fmt.Fprintf(&b, "%d bytes %q %v, ", len(s.Bytes), s.Bytes[:min(len(s.Bytes), size)], s.Bad)
	}
	fmt.Fprintf(&b, "), %d writes (", len(d.Cache))
	for _, p := range d.Cache[:min(len(d.Cache), 4)] {
		fmt.Fprintf(&b, "%d: %d bytes %q, ", p.At, len(p.Bytes), p.Bytes[:min(len(p.Bytes), size)])
	}
	return b.String() + ")"
}

func nothing(d api.Disk) bool { return len(d.Sectors) == 0 && len(d.Cache) == 0 }

func mustNew(t *testing.T, many int) api.Disk {
	t.Helper()
	d, e := disk.New(many)
	if e != api.OK {
		t.Fatalf("New(%d): error %d", many, e)
	}
	return d
}

func mustWrite(t *testing.T, d api.Disk, at int, b []byte) api.Disk {
	t.Helper()
	out, e := disk.Write(d, at, b)
	if e != api.OK {
		t.Fatalf("Write(%s, %d, %q): error %d", shown(d), at, b, e)
	}
	return out
}

func mustFlush(t *testing.T, d api.Disk) api.Disk {
	t.Helper()
	out, e := disk.Flush(d)
	if e != api.OK {
		t.Fatalf("Flush(%s): error %d", shown(d), e)
	}
	return out
}

func mustCrash(t *testing.T, d api.Disk, fates ...uint8) api.Disk {
	t.Helper()
	out, e := disk.Crash(d, fates)
	if e != api.OK {
		t.Fatalf("Crash(%s, %v): error %d", shown(d), fates, e)
	}
	return out
}

// holdRead holds that the bytes are read of the sector at, or, if there are none, that it can't be read.
func holdRead(t *testing.T, d api.Disk, at int, want []byte) {
	t.Helper()
	code := api.OK
	if want == nil {
		code = api.ErrSector
	}
	if b, e := disk.Read(d, at); !bytes.Equal(b, want) || e != code {
		t.Errorf("Read(%s, %d): %q, error %d; want %q, error %d", shown(d), at, b, e, want, code)
	}
}

func holdWaits(t *testing.T, d api.Disk, at int, want bool) {
	t.Helper()
	if is, e := disk.Waits(d, at); is != want || e != api.OK {
		t.Errorf("Waits(%s, %d): %v, error %d; want %v", shown(d), at, is, e, want)
	}
}

// holdDisk holds that got is the disk that is wanted, and that it may be.
func holdDisk(t *testing.T, got, want api.Disk) {
	t.Helper()
	if !alike(got, want) {
		t.Errorf("%s; want %s", shown(got), shown(want))
	}
	if e := disk.Check(got); e != api.OK {
		t.Errorf("Check(%s): %d", shown(got), e)
	}
}

func refuseWrite(t *testing.T, d api.Disk, at int, b []byte, want api.Errno) {
	t.Helper()
	if out, e := disk.Write(d, at, b); !nothing(out) || e != want {
		t.Errorf("Write(%s, %d, %q): %s, error %d; want nothing, error %d", shown(d), at, b, shown(out), e, want)
	}
}

// refuseAt holds that all calls that ask for a sector's number tell that error, and nothing beside.
func refuseAt(t *testing.T, d api.Disk, at int, want api.Errno) {
	t.Helper()
	for _, many := range []int{0, size - 1, size, size + 1} {
		refuseWrite(t, d, at, make([]byte, many), want)
	}
	if b, e := disk.Read(d, at); len(b) != 0 || e != want {
		t.Errorf("Read(%s, %d): %q, error %d; want nothing, error %d", shown(d), at, b, e, want)
	}
	if is, e := disk.Waits(d, at); is || e != want {
		t.Errorf("Waits(%s, %d): %v, error %d; want nothing, error %d", shown(d), at, is, e, want)
	}
}

// wrongAts are numbers that no sector of a disk of so many has.
func wrongAts(many int) []int {
	return []int{many, many + 1, many + 64, many + 1<<32, -1, -2, -many, -many - 1, math.MaxInt, math.MinInt, math.MaxInt32 + 1, math.MinInt + 1}
}

// refuseAll holds that d may not be, and that all calls that ask so tell it first, and nothing beside.
func refuseAll(t *testing.T, d api.Disk) {
	t.Helper()
	if e := disk.Check(d); e != api.ErrBad {
		t.Errorf("Check(%s): %d; want %d", shown(d), e, api.ErrBad)
	}
	for _, at := range append(wrongAts(len(d.Sectors)), 0, 1, len(d.Sectors)-1) {
		refuseAt(t, d, at, api.ErrBad)
	}
	if out, e := disk.Flush(d); !nothing(out) || e != api.ErrBad {
		t.Errorf("Flush(%s): %s, error %d; want nothing, error %d", shown(d), shown(out), e, api.ErrBad)
	}
	for _, fates := range [][]uint8{nil, {1}, {2, 255, 0}, make([]uint8, 100)} {
		if out, e := disk.Crash(d, fates); !nothing(out) || e != api.ErrBad {
			t.Errorf("Crash(%s, %v): %s, error %d; want nothing, error %d", shown(d), fates, shown(out), e, api.ErrBad)
		}
	}
	holdTwin(t, d)
}

// holdTwin holds that d's twin is the same as d, and shares no memory with it, whatever d is.
func holdTwin(t *testing.T, d api.Disk) {
	t.Helper()
	want, spare := cloned(d), cloned(d)
	twin := disk.Twin(d)
	if !alike(twin, want) || !disk.Same(twin, d) || !disk.Same(d, twin) {
		t.Errorf("the twin of %s: %s", shown(d), shown(twin))
	}
	spoil(twin)
	if !alike(d, want) {
		t.Errorf("the twin of %s shares its memory", shown(want))
	}
	twin = disk.Twin(spare)
	spoil(spare)
	if !alike(twin, want) {
		t.Errorf("the twin of %s shares its memory", shown(want))
	}
}

// spoil changes all of a disk's memory, also what lies in the capacities.
func spoil(d api.Disk) {
	sectors := d.Sectors[:cap(d.Sectors)]
	for i := range sectors {
		spoilBytes(sectors[i].Bytes)
		sectors[i] = api.Sector{Bytes: []byte("spoilt"), Bad: true}
	}
	writes := d.Cache[:cap(d.Cache)]
	for i := range writes {
		spoilBytes(writes[i].Bytes)
		writes[i] = api.Pend{At: -9, Bytes: []byte("spoilt")}
	}
}

func spoilBytes(b []byte) {
	b = b[:cap(b)]
	for i := range b {
		b[i] += 99
	}
}

// The chapter's examples.
func TestExamples(t *testing.T) {
	x, y := full('x'), full('y')
	d := mustWrite(t, mustWrite(t, mustNew(t, 2), 1, x), 1, y)
	holdRead(t, d, 1, y)
	crashed := mustCrash(t, d, api.FateDone, api.FateBad)
	if !crashed.Sectors[1].Bad {
		t.Errorf("done, bad: %s", shown(crashed))
	}
	holdRead(t, crashed, 1, nil)
	holdRead(t, mustCrash(t, d, api.FateDone), 1, x)
	holdRead(t, mustCrash(t, d), 1, nought())
}

// P5.1, New: each number of sectors that may be.
func TestNew(t *testing.T) {
	for many := 1; many <= most; many++ {
		d := mustNew(t, many)
		var want api.Disk
		for range many {
			want.Sectors = append(want.Sectors, api.Sector{Bytes: nought()})
		}
		holdDisk(t, d, want)
		for _, at := range []int{0, many - 1} {
			holdRead(t, d, at, nought())
			holdWaits(t, d, at, false)
		}
		refuseAt(t, d, many, api.ErrArg)
	}
}

// P5.1, New: numbers of sectors that may not be.
func TestNewWrong(t *testing.T) {
	for _, many := range []int{0, -1, -2, -1023, -1024, -1025, 1025, 1026, 2048, 1 << 16, 1<<32 + 1, 1<<40 + 1024, math.MaxInt, math.MinInt, math.MinInt + 1, math.MaxInt - 1023} {
		if d, e := disk.New(many); !nothing(d) || e != api.ErrArg {
			t.Errorf("New(%d): %s, error %d; want nothing, error %d", many, shown(d), e, api.ErrArg)
		}
	}
}

// P5.1, Check: disks that may be, the edges among them.
func TestCheck(t *testing.T) {
	each(func(d api.Disk) { holdDisk(t, d, d) })
	spotted := api.Disk{Sectors: []api.Sector{badSector(), badSector()}}
	holdDisk(t, spotted, spotted)
	spotted = waiting(spotted, room)
	holdDisk(t, spotted, spotted)
	empty := laid(1)
	empty.Cache = []api.Pend{}
	holdDisk(t, empty, empty)
	for at := range most {
		d := laid(most)
		d.Cache = []api.Pend{{At: at, Bytes: full(255)}}
		if e := disk.Check(d); e != api.OK {
			t.Errorf("a write of the sector %d: error %d", at, e)
		}
	}
}

// strange are values of which none is a disk that may be.
func strange() []api.Disk {
	crowded := waiting(laid(3), room)
	crowded.Cache = append(crowded.Cache, api.Pend{At: 1, Bytes: text(7)})
	heap := waiting(laid(2), room)
	heap.Cache = slices.Repeat(heap.Cache, 3)
	l := []api.Disk{
		{},
		{Sectors: []api.Sector{}, Cache: []api.Pend{}},
		{Cache: []api.Pend{{At: 0, Bytes: text(0)}}},
		{Cache: []api.Pend{{At: -1}}},
		laid(most + 1),
		laid(2*most + 1),
		waiting(laid(most+1), 1),
		crowded,
		heap,
		{Sectors: []api.Sector{{Bad: true}}},
		{Sectors: []api.Sector{{}}},
	}
	return append(append(l, oddSectors()...), oddWrites()...)
}

// oddSectors are disks of which one sector alone is none that may be.
func oddSectors() []api.Disk {
	var l []api.Disk
	for _, many := range []int{1, 2, 5} {
		for _, at := range []int{0, many / 2, many - 1} {
			for _, s := range wrongSectors() {
				d := waiting(laid(many), at)
				d.Sectors[at] = s
				l = append(l, d)
			}
		}
	}
	return l
}

func wrongSectors() []api.Sector {
	var l []api.Sector
	for _, long := range []int{0, 1, size - 1, size + 1, 2 * size, 5000} {
		l = append(l, api.Sector{Bytes: bytes.Repeat([]byte{'x'}, long)}, api.Sector{Bytes: make([]byte, long)}, api.Sector{Bytes: make([]byte, long), Bad: true})
	}
	for i := range size {
		for _, c := range []byte{1, 128, 255} {
			b := nought()
			b[i] = c
			l = append(l, api.Sector{Bytes: b, Bad: true})
		}
	}
	return append(l, api.Sector{Bytes: full('x'), Bad: true})
}

// oddWrites are disks of which one write alone is none that may be.
func oddWrites() []api.Disk {
	var l []api.Disk
	for _, many := range []int{1, 2, 5} {
		for _, place := range []int{0, 1, 2, 63} {
			var wrong []api.Pend
			for _, at := range wrongAts(many) {
				wrong = append(wrong, api.Pend{At: at, Bytes: text(1)})
			}
			for _, long := range []int{0, 1, size - 1, size + 1, 2 * size} {
				wrong = append(wrong, api.Pend{At: many - 1, Bytes: make([]byte, long)})
			}
			for _, p := range wrong {
				d := waiting(laid(many), min(place+1, room))
				d.Cache[place] = p
				l = append(l, d)
			}
		}
	}
	return l
}

// P5.1, Check, and P5.2, P5.3, P1: disks that may not be, and that Check's error is told ahead of each other one.
func TestStrange(t *testing.T) {
	for _, d := range strange() {
		refuseAll(t, d)
	}
}

// P5.1, Same: disks that are the same, in one memory and in two, whatever they are.
func TestSame(t *testing.T) {
	hold := func(d api.Disk) {
		holdSame(t, d, d, true)
		holdSame(t, d, cloned(d), true)
	}
	each(hold)
	for _, d := range strange() {
		hold(d)
	}
	holdSame(t, api.Disk{}, api.Disk{Sectors: []api.Sector{}, Cache: []api.Pend{}}, true)
	holdSame(t, api.Disk{Sectors: []api.Sector{{}}}, api.Disk{Sectors: []api.Sector{{Bytes: []byte{}}}}, true)
	holdSame(t, api.Disk{Cache: []api.Pend{{}}}, api.Disk{Cache: []api.Pend{{Bytes: []byte{}}}}, true)
}

func holdSame(t *testing.T, a, b api.Disk, want bool) {
	t.Helper()
	if disk.Same(a, b) != want || disk.Same(b, a) != want {
		t.Errorf("Same(%s, %s): %v, %v; want %v", shown(a), shown(b), disk.Same(a, b), disk.Same(b, a), want)
	}
}

// P5.1, Same: of any values that differ in one thing alone.
func TestNotSame(t *testing.T) {
	hold := func(d api.Disk) {
		if len(d.Sectors) > 5 {
			return
		}
		for _, other := range turned(d) {
			holdSame(t, d, other, false)
		}
	}
	each(hold)
	for _, d := range strange() {
		hold(d)
	}
	holdSame(t, laid(most), laid(most-1), false)
	last := laid(most)
	last.Sectors[most-1].Bytes[size-1]++
	holdSame(t, laid(most), last, false)
}

// P5.1, Same: what is read is the same of these, but not all of them.
func TestNotSameCache(t *testing.T) {
	d := laid(2)
	again := cloned(d)
	again.Cache = []api.Pend{{At: 0, Bytes: text(0)}}
	holdSame(t, d, again, false)
	one, two := api.Pend{At: 0, Bytes: text(8)}, api.Pend{At: 1, Bytes: text(9)}
	a, b := cloned(d), cloned(d)
	a.Cache, b.Cache = []api.Pend{one, two}, []api.Pend{two, one}
	holdSame(t, a, b, false)
	b.Cache = []api.Pend{one, one, two}
	holdSame(t, a, b, false)
	holdSame(t, mustFlush(t, a), a, false)
	holdSame(t, mustFlush(t, a), mustFlush(t, b), true)
	a, b = mustNew(t, 1), mustNew(t, 1)
	b.Sectors[0].Bad = true
	holdSame(t, a, b, false)
}

// turned are values that differ from d in one thing each.
func turned(d api.Disk) []api.Disk {
	var l []api.Disk
	turn := func(f func(other *api.Disk)) {
		other := cloned(d)
		f(&other)
		l = append(l, other)
	}
	for i, s := range d.Sectors {
		turn(func(other *api.Disk) { other.Sectors[i].Bad = !s.Bad })
		for _, b := range others(s.Bytes) {
			turn(func(other *api.Disk) { other.Sectors[i].Bytes = b })
		}
	}
	for i, p := range d.Cache {
		for _, by := range []int{1, -1, 1 << 32, math.MinInt} {
			turn(func(other *api.Disk) { other.Cache[i].At += by })
		}
		for _, b := range others(p.Bytes) {
			turn(func(other *api.Disk) { other.Cache[i].Bytes = b })
		}
	}
	turn(func(other *api.Disk) { other.Sectors = append(other.Sectors, api.Sector{}) })
	turn(func(other *api.Disk) { other.Cache = append(other.Cache, api.Pend{}) })
	if n := len(d.Sectors); n > 0 {
		turn(func(other *api.Disk) { other.Sectors = other.Sectors[:n-1] })
		turn(func(other *api.Disk) { other.Sectors = other.Sectors[1:] })
		turn(func(other *api.Disk) { other.Sectors = nil })
	}
	if n := len(d.Cache); n > 0 {
		turn(func(other *api.Disk) { other.Cache = other.Cache[:n-1] })
		turn(func(other *api.Disk) { other.Cache = nil })
	}
	return l
}

// others are bytes that are not b, and nearly are.
func others(b []byte) [][]byte {
	l := [][]byte{append(bytes.Clone(b), 0)}
	if len(b) > 0 {
		first, last := bytes.Clone(b), bytes.Clone(b)
		first[0]++
		last[len(b)-1] ^= 128
		l = append(l, nil, b[:len(b)-1], first, last)
	}
	return l
}

// P5.1, Twin: of disks that may be, and of sectors and writes of odd lengths.
func TestTwin(t *testing.T) {
	each(func(d api.Disk) { holdTwin(t, d) })
	holdTwin(t, api.Disk{})
	r := seeded(1)
	for range 300 {
		var d api.Disk
		for range r.IntN(8) {
			d.Sectors = append(d.Sectors, api.Sector{Bytes: anyBytes(r), Bad: r.IntN(2) == 0})
		}
		for range r.IntN(8) {
			d.Cache = append(d.Cache, api.Pend{At: int(r.Uint64()), Bytes: anyBytes(r)})
		}
		holdTwin(t, d)
		holdApart(t, disk.Twin(d))
	}
}

func anyBytes(r *rand.Rand) []byte {
	b := make([]byte, []int{0, 1, 31, 32, 33, 100, 3000}[r.IntN(7)])
	for i := range b {
		b[i] = byte(r.Uint64())
	}
	return b
}

// P5.2, Write: a write goes behind the others of the cache, till that is full, and nothing else is turned.
func TestWrite(t *testing.T) {
	for _, many := range []int{1, 2, 3, 1023, 1024} {
		d := laid(many)
		want := cloned(d)
		for i := range room {
			at := []int{0, many - 1, many / 2, many - 1}[i%4]
			b := text(5000 + i/3)
			d = mustWrite(t, d, at, b)
			want.Cache = append(want.Cache, api.Pend{At: at, Bytes: b})
			holdDisk(t, d, want)
			holdRead(t, d, at, b)
			holdWaits(t, d, at, true)
		}
		refuseWrite(t, d, 0, text(1), api.ErrFull)
		refuseWrite(t, d, many-1, text(1), api.ErrFull)
	}
}

// P5.2, Write, and P1: numbers of sectors and of bytes that may not be; those are told ahead of a cache that is full.
func TestWriteWrong(t *testing.T) {
	each(func(d api.Disk) {
		for _, at := range wrongAts(len(d.Sectors)) {
			refuseAt(t, d, at, api.ErrArg)
		}
		for _, at := range []int{0, len(d.Sectors) / 2, len(d.Sectors) - 1} {
			for _, long := range []int{0, 1, size - 1, size + 1, 2 * size, 5000} {
				refuseWrite(t, d, at, make([]byte, long), api.ErrArg)
			}
			refuseWrite(t, d, at, nil, api.ErrArg)
			if len(d.Cache) == room {
				refuseWrite(t, d, at, text(1), api.ErrFull)
			} else {
				mustWrite(t, d, at, text(1))
			}
		}
	})
}

// P5.2, Read and Waits: the last write of a sector that is in the cache, or what the sector has.
func TestRead(t *testing.T) {
	each(func(d api.Disk) {
		want := cloned(d)
		wants, waits := readOf(d)
		for at := range wants {
			holdRead(t, d, at, wants[at])
			holdWaits(t, d, at, waits[at])
		}
		if !alike(d, want) {
			t.Errorf("%s was read, and is %s", shown(want), shown(d))
		}
	})
	d := laid(3)
	for _, at := range []int{1, 2, 1, 0, 1} {
		d = mustWrite(t, d, at, text(100+len(d.Cache)))
	}
	holdRead(t, d, 0, text(103))
	holdRead(t, d, 1, text(104))
	holdRead(t, d, 2, text(101))
}

// readOf is what the chapter says is read of each sector (nil, if it can't be), and whether a write of it waits: the writes are gone through from the first one on.
func readOf(d api.Disk) (wants [][]byte, waits []bool) {
	wants, waits = make([][]byte, len(d.Sectors)), make([]bool, len(d.Sectors))
	for i, s := range d.Sectors {
		if !s.Bad {
			wants[i] = s.Bytes
		}
	}
	for _, p := range d.Cache {
		wants[p.At], waits[p.At] = p.Bytes, true
	}
	return wants, waits
}

// P5.2, P5.3: a sector that is Bad, with and without a write of it.
func TestBad(t *testing.T) {
	for _, many := range []int{1, 2, 5, most} {
		for _, at := range []int{0, many / 2, many - 1} {
			d := laid(many)
			d.Sectors[at] = badSector()
			holdRead(t, d, at, nil)
			holdWaits(t, d, at, false)
			holdDisk(t, mustFlush(t, d), d)
			holdDisk(t, mustCrash(t, d, 1, 1), d)
			two := cloned(d)
			two.Cache = []api.Pend{{At: at, Bytes: text(3)}, {At: at, Bytes: nought()}}
			w := mustWrite(t, mustWrite(t, d, at, text(3)), at, nought())
			holdDisk(t, w, two)
			holdRead(t, w, at, nought())
			holdWaits(t, w, at, true)
			whole := func(b []byte) api.Disk {
				out := cloned(d)
				out.Sectors[at] = api.Sector{Bytes: b}
				return out
			}
			holdDisk(t, mustFlush(t, w), whole(nought()))
			holdDisk(t, mustCrash(t, w), d)
			holdDisk(t, mustCrash(t, w, 0, 0), d)
			holdDisk(t, mustCrash(t, w, 1), whole(text(3)))
			holdDisk(t, mustCrash(t, w, 1, 0), whole(text(3)))
			holdDisk(t, mustCrash(t, w, 1, 1), whole(nought()))
			holdDisk(t, mustCrash(t, w, 2, 1), whole(nought()))
			holdDisk(t, mustCrash(t, w, 1, 2), d)
			holdDisk(t, mustCrash(t, w, 2), d)
		}
	}
}

// P5.3, Flush: all writes are done, in order; of the same sector the last one stands.
func TestFlush(t *testing.T) {
	each(func(d api.Disk) {
		out := mustFlush(t, d)
		holdDisk(t, out, crashOf(d, slices.Repeat([]uint8{1}, room)))
		holdDisk(t, mustFlush(t, out), out)
	})
	d := laid(2)
	for i := range room {
		d = mustWrite(t, d, 1, text(100+i))
	}
	holdDisk(t, mustFlush(t, d), api.Disk{Sectors: []api.Sector{{Bytes: text(0)}, {Bytes: text(163)}}})
}

// crashOf is the chapter's words for a crash, write by write.
func crashOf(d api.Disk, fates []uint8) api.Disk {
	out := cloned(d)
	out.Cache = nil
	for i, p := range d.Cache {
		if i >= len(fates) {
			break // no fate: this one is lost, and so are those behind it
		}
		switch fates[i] - fates[i]/3*3 {
		case 1:
			out.Sectors[p.At] = api.Sector{Bytes: bytes.Clone(p.Bytes)}
		case 2:
			out.Sectors[p.At] = badSector()
		}
	}
	return out
}

// P5.3, Crash: each fate there is, of one write.
func TestFates(t *testing.T) {
	d := mustWrite(t, laid(3), 1, text(9))
	after := func(s api.Sector) api.Disk {
		out := laid(3)
		out.Sectors[1] = s
		return out
	}
	wants := []api.Disk{laid(3), after(api.Sector{Bytes: text(9)}), after(badSector())}
	for fate := range 256 {
		holdDisk(t, mustCrash(t, d, uint8(fate)), wants[fate%3])
	}
	for fate, want := range map[uint8]api.Disk{0: wants[0], 1: wants[1], 2: wants[2], 3: wants[0], 4: wants[1], 5: wants[2], 254: wants[2], 255: wants[0]} {
		holdDisk(t, mustCrash(t, d, fate), want)
	}
	holdDisk(t, mustCrash(t, d, api.FateLost), wants[0])
	holdDisk(t, mustCrash(t, d, api.FateDone), wants[1])
	holdDisk(t, mustCrash(t, d, api.FateBad), wants[2])
}

// P5.3, Crash: no fates, fewer than writes, as many, and more, which count for nothing.
func TestCrash(t *testing.T) {
	r := seeded(2)
	each(func(d api.Disk) {
		many := len(d.Cache)
		for _, n := range []int{0, 1, many / 2, many - 1, many, many + 1, room, room + 1, 3000} {
			for range 3 {
				fates := anyFates(r, max(n, 0))
				out := mustCrash(t, d, fates...)
				holdDisk(t, out, crashOf(d, fates))
				holdDisk(t, mustCrash(t, d, append(slices.Clone(fates), slices.Repeat([]uint8{0}, room)...)...), out)
				if n >= many {
					holdDisk(t, mustCrash(t, d, fates[:many]...), out)
				}
				holdDisk(t, mustCrash(t, out, fates...), out)
			}
		}
		holdDisk(t, mustCrash(t, d, slices.Repeat([]uint8{1}, room)...), mustFlush(t, d))
	})
}

func anyFates(r *rand.Rand, many int) []uint8 {
	l := make([]uint8, many)
	for i := range l {
		l[i] = []uint8{0, 1, 2, 3, 4, 5, 254, 255, uint8(r.Uint64())}[r.IntN(9)]
	}
	return l
}

// P5.3, Crash: all fates of three writes of one sector, and of two others between them.
func TestEachFate(t *testing.T) {
	d := laid(2)
	for i, at := range []int{1, 0, 1, 0, 1} {
		d = mustWrite(t, d, at, text(10+i))
	}
	for n := range 3 * 3 * 3 * 3 * 3 {
		var fates []uint8
		for left := n; len(fates) < 5; left /= 3 {
			fates = append(fates, uint8(left%3))
		}
		for many := range 6 {
			holdDisk(t, mustCrash(t, d, fates[:many]...), crashOf(d, fates[:many]))
		}
	}
}

// spacious lays a disk's bytes into one list, with bytes between them, and its sectors and writes into longer ones.
func spacious(d api.Disk) (out api.Disk, memory []byte) {
	put := func(b []byte) { memory = append(append(memory, b...), "----"...) }
	for _, s := range d.Sectors {
		put(s.Bytes)
	}
	for _, p := range d.Cache {
		put(p.Bytes)
	}
	at := 0
	cut := func(b []byte) []byte {
		at += len(b) + 4
		return memory[at-len(b)-4 : at-4]
	}
	for _, s := range d.Sectors {
		out.Sectors = append(out.Sectors, api.Sector{Bytes: cut(s.Bytes), Bad: s.Bad})
	}
	for _, p := range d.Cache {
		out.Cache = append(out.Cache, api.Pend{At: p.At, Bytes: cut(p.Bytes)})
	}
	out.Sectors = append(out.Sectors, api.Sector{Bytes: []byte("behind")})[:len(out.Sectors)]
	out.Cache = append(out.Cache, api.Pend{At: 77, Bytes: []byte("behind")})[:len(out.Cache)]
	return out, memory
}

// calls are all calls that answer a disk made of another one.
func calls(t *testing.T, b []byte, fates []uint8) map[string]func(d api.Disk) api.Disk {
	return map[string]func(d api.Disk) api.Disk{
		"Write": func(d api.Disk) api.Disk {
			if len(d.Cache) == room {
				return disk.Twin(d)
			}
			return mustWrite(t, d, len(d.Sectors)-1, b)
		},
		"Flush": func(d api.Disk) api.Disk { return mustFlush(t, d) },
		"Crash": func(d api.Disk) api.Disk { return mustCrash(t, d, fates...) },
		"Twin":  disk.Twin,
	}
}

// P5.4: what is handed in is as it was, also behind its end and between its parts.
func TestOnlyRead(t *testing.T) {
	each(func(want api.Disk) {
		d, memory := spacious(want)
		memory0 := bytes.Clone(memory)
		b := append(text(4), "----"...)
		fates, fates0 := anyFates(seeded(3), 70), anyFates(seeded(3), 70)
		for _, call := range calls(t, b[:size], fates) {
			call(d)
		}
		disk.Check(d)
		disk.Read(d, 0)
		disk.Waits(d, 0)
		disk.Same(d, want)
		disk.Same(want, d)
		disk.Same(d, d)
		refuseWrite(t, d, -1, b[:size], api.ErrArg)
		if !alike(d, want) || !bytes.Equal(memory, memory0) || string(b) != string(text(4))+"----" || !slices.Equal(fates, fates0) {
			t.Errorf("%s was handed in, and is %s", shown(want), shown(d))
		}
		sector, write := d.Sectors[:len(d.Sectors)+1][len(d.Sectors)], d.Cache[:len(d.Cache)+1][len(d.Cache)]
		if sector.Bad || string(sector.Bytes) != "behind" || write.At != 77 || string(write.Bytes) != "behind" {
			t.Errorf("behind the parts of %s stand %v, %v", shown(want), sector, write)
		}
	})
}

// P5.4: a change of an answer changes neither what was handed in nor another answer; nor does a change of that change the answer; and no two parts of an answer share memory.
func TestNewMemory(t *testing.T) {
	each(func(want api.Disk) {
		fates := anyFates(seeded(4), 50)
		b := append(text(4), "----"...)
		for name, call := range calls(t, b[:size], fates) {
			d, memory := spacious(want)
			one, two := call(d), call(d)
			result := cloned(two)
			spoil(one)
			if !alike(two, result) || !alike(d, want) || !alike(call(d), result) || string(b) != string(text(4))+"----" {
				t.Errorf("%s of %s: an answer shares memory", name, shown(want))
			}
			spoilBytes(memory)
			spoil(d)
			spoilBytes(b)
			if !alike(two, result) {
				t.Errorf("%s of %s: the answer shares memory with what was handed in", name, shown(want))
			}
			holdApart(t, two)
			b = append(text(4), "----"...)
		}
	})
}

// holdApart holds that each part of a disk stays as it is when all those ahead of it, and then all those behind it, are spoilt, with their capacities.
func holdApart(t *testing.T, d api.Disk) {
	t.Helper()
	parts := partsOf(d)
	var wants [][]byte
	for _, b := range parts {
		wants = append(wants, bytes.Clone(b))
	}
	for i, b := range parts {
		if !bytes.Equal(b, wants[i]) {
			t.Fatalf("part %d of %s shares memory with one ahead of it", i, shown(d))
		}
		spoilBytes(b)
	}
	for i, b := range parts {
		copy(b, wants[i])
	}
	for i, b := range slices.Backward(parts) {
		if !bytes.Equal(b, wants[i]) {
			t.Fatalf("part %d of %s shares memory with one behind it", i, shown(d))
		}
		spoilBytes(b)
	}
}

func partsOf(d api.Disk) [][]byte {
	var l [][]byte
	for _, s := range d.Sectors {
		l = append(l, s.Bytes)
	}
	for _, p := range d.Cache {
		l = append(l, p.Bytes)
	}
	return l
}

// P5.4: no two parts of an answer share memory, also where all those that were handed in are one.
func TestOneListOften(t *testing.T) {
	b := full('o')
	for _, many := range []int{0, 1, 2, room - 1, room} {
		d := api.Disk{Sectors: slices.Repeat([]api.Sector{{Bytes: b}}, 70), Cache: make([]api.Pend, many)}
		for i := range d.Cache {
			d.Cache[i] = api.Pend{At: i, Bytes: b}
		}
		for _, call := range calls(t, b, []uint8{2, 1, 0, 2, 2}) {
			holdApart(t, call(d))
		}
		holdApart(t, mustCrash(t, d, slices.Repeat([]uint8{2}, room)...))
		if !bytes.Equal(b, full('o')) {
			t.Errorf("what was handed in is %q", b)
		}
	}
}

// P5.4: what New answers is new each time, and no two of its sectors share memory.
func TestNewNewMemory(t *testing.T) {
	for _, many := range []int{1, 2, 1023, 1024} {
		one, two := mustNew(t, many), mustNew(t, many)
		want := cloned(two)
		holdApart(t, one)
		spoil(one)
		if !alike(two, want) || !alike(mustNew(t, many), want) {
			t.Errorf("new disks of %d share memory", many)
		}
	}
}

// P5.4: the same of the bytes that Read answers, of a sector and of a write.
func TestReadNewMemory(t *testing.T) {
	each(func(want api.Disk) {
		d, memory := spacious(want)
		wants, _ := readOf(want)
		for at := range min(len(wants), 8) {
			one, _ := disk.Read(d, at)
			two, _ := disk.Read(d, at)
			spoilBytes(one)
			if !bytes.Equal(two, wants[at]) || !alike(d, want) {
				t.Errorf("Read(%s, %d): an answer shares memory", shown(want), at)
			}
			holdRead(t, d, at, wants[at])
		}
		last, e := disk.Read(d, len(wants)-1)
		spoilBytes(memory)
		if e == api.OK && !bytes.Equal(last, wants[len(wants)-1]) {
			t.Errorf("Read(%s): the answer shares memory with what was handed in", shown(want))
		}
	})
}

// reads are what is read of each sector; nil, where it can't be.
func reads(t *testing.T, d api.Disk) []string {
	t.Helper()
	var l []string
	for at := range d.Sectors {
		b, e := disk.Read(d, at)
		if e != api.OK && e != api.ErrSector {
			t.Fatalf("Read(%s, %d): error %d", shown(d), at, e)
		}
		l = append(l, string(b))
	}
	return l
}

// P5.5: over long runs a flush turns nothing that is read; behind a crash each sector is as it was, or as one of its writes in the cache left it, or Bad; one of which no write was in the cache is as it was.
func TestLongRuns(t *testing.T) {
	r := seeded(5)
	for _, many := range []int{1, 2, 5, 40, 1023, 1024} {
		d := mustNew(t, many)
		steps := 1500
		if many > 100 {
			steps = 200
		}
		for step := range steps {
			switch k := r.IntN(100); {
			case k < 4:
				ahead := reads(t, d)
				d = mustFlush(t, d)
				holdFlushed(t, d, ahead)
			case k < 8:
				ahead := d
				d = mustCrash(t, d, anyFates(r, r.IntN(len(d.Cache)+3))...)
				holdCrashed(t, d, ahead)
			case len(d.Cache) == room:
				refuseWrite(t, d, r.IntN(many), text(step), api.ErrFull)
				d = mustFlush(t, d)
			default:
				d = mustWrite(t, d, r.IntN(min(many, 1+r.IntN(many))), text(step))
			}
		}
	}
}

func holdFlushed(t *testing.T, d api.Disk, ahead []string) {
	t.Helper()
	if len(d.Cache) != 0 || !slices.Equal(reads(t, d), ahead) {
		t.Errorf("a flush turned what is read: %s", shown(d))
	}
}

func holdCrashed(t *testing.T, d, ahead api.Disk) {
	t.Helper()
	if len(d.Cache) != 0 || len(d.Sectors) != len(ahead.Sectors) || disk.Check(d) != api.OK {
		t.Fatalf("behind a crash of %s: %s", shown(ahead), shown(d))
	}
	for at, s := range d.Sectors {
		may := []api.Sector{ahead.Sectors[at]}
		for _, p := range ahead.Cache {
			if p.At == at {
				may = append(may, api.Sector{Bytes: p.Bytes}, badSector())
			}
		}
		if !slices.ContainsFunc(may, func(m api.Sector) bool { return m.Bad == s.Bad && bytes.Equal(m.Bytes, s.Bytes) }) {
			t.Errorf("behind a crash of %s the sector %d is %q, %v", shown(ahead), at, s.Bytes, s.Bad)
		}
	}
}

// P1: each call ends, and none panics, whatever comes; beside an error there is nothing, and the error is the one named first.
func TestWhatever(t *testing.T) {
	r := seeded(6)
	for range 5000 {
		d := anyDisk(r)
		other := anyDisk(r)
		holdSame(t, d, other, alike(d, other))
		if !may(d) {
			refuseAll(t, d)
			continue
		}
		holdTwin(t, d)
		holdDisk(t, d, d)
		holdDisk(t, mustFlush(t, d), crashOf(d, slices.Repeat([]uint8{1}, room)))
		fates := anyFates(r, r.IntN(room+5))
		holdDisk(t, mustCrash(t, d, fates...), crashOf(d, fates))
		at, long := r.IntN(len(d.Sectors)+2)-1, []int{0, size - 1, size, size, size, size + 1}[r.IntN(6)]
		holdAt(t, d, at, make([]byte, long))
	}
}

// holdAt holds what Write, Read and Waits answer of a disk that may be.
func holdAt(t *testing.T, d api.Disk, at int, b []byte) {
	t.Helper()
	if at < 0 || at >= len(d.Sectors) {
		refuseAt(t, d, at, api.ErrArg)
		return
	}
	wants, waits := readOf(d)
	holdRead(t, d, at, wants[at])
	holdWaits(t, d, at, waits[at])
	switch {
	case len(b) != size:
		refuseWrite(t, d, at, b, api.ErrArg)
	case len(d.Cache) == room:
		refuseWrite(t, d, at, b, api.ErrFull)
	default:
		want := cloned(d)
		want.Cache = append(want.Cache, api.Pend{At: at, Bytes: b})
		holdDisk(t, mustWrite(t, d, at, b), want)
	}
}

// anyDisk is often one that may be, and else one that nearly may be.
func anyDisk(r *rand.Rand) api.Disk {
	many := []int{1, 1, 2, 3, 9}[r.IntN(5)]
	d := laid(many)
	for i := range d.Sectors {
		if r.IntN(5) == 0 {
			d.Sectors[i] = badSector()
		}
	}
	d = waiting(d, []int{0, 0, 1, 2, 5, 63, 64, 64}[r.IntN(8)])
	s := &d.Sectors[r.IntN(many)]
	switch r.IntN(20) {
	case 0:
		d.Sectors = nil
	case 1:
		s.Bytes = make([]byte, size+1-2*r.IntN(2))
	case 2:
		s.Bad = true
	case 3:
		s.Bytes[r.IntN(size)] = 0
	case 4:
		d.Cache = append(d.Cache, api.Pend{At: r.IntN(many), Bytes: text(3)})
	case 5:
		d.Cache = append([]api.Pend{{At: wrongAts(many)[r.IntN(6)], Bytes: text(3)}}, d.Cache[:min(len(d.Cache), room-1)]...)
	case 6:
		d.Cache = append([]api.Pend{{At: r.IntN(many), Bytes: anyBytes(r)}}, d.Cache[:min(len(d.Cache), room-1)]...)
	}
	return d
}

// may is the chapter's words for a disk that may be.
func may(d api.Disk) bool {
	if len(d.Sectors) < 1 || len(d.Sectors) > most || len(d.Cache) > room {
		return false
	}
	for _, s := range d.Sectors {
		if len(s.Bytes) != size || s.Bad && string(s.Bytes) != string(nought()) {
			return false
		}
	}
	for _, p := range d.Cache {
		if p.At < 0 || p.At >= len(d.Sectors) || len(p.Bytes) != size {
			return false
		}
	}
	return true
}

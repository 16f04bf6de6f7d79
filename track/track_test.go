package track_test

import (
	"bytes"
	"encoding/binary"
	"hash/crc32"
	"math"
	"math/rand/v2"
	"slices"
	"sync"
	"testing"

	"catamaran/api"
	"catamaran/cell"
	"catamaran/disk"
	"catamaran/track"
)

// The chapter's examples.
func TestExamples(t *testing.T) {
	c, d := sample(), bare(sample())
	eachTrack(c, func(pair, n int) { holdRead(t, c, d, pair, n, make([]byte, 28), api.OK) })
	x := bytes.Repeat([]byte("x"), 28)
	d = mustWrite(t, c, d, 1, 3, x)
	holdRead(t, c, d, 1, 3, x, api.OK)
	holdRead(t, c, d, 1, 9, nil, api.ErrTrack)
	holdRead(t, c, d, 2, 0, nil, api.ErrTrack)
	holdRead(t, c, d, 2, 3, nil, api.ErrTrack)
}

// The same write, byte by byte: the sum of 28 x is reckoned by the library.
func TestExampleBytes(t *testing.T) {
	c, d := sample(), bare(sample())
	x := bytes.Repeat([]byte("x"), 28)
	one := append([]byte{0, 0, 0, 1, 0, 24, 0, 0}, x[:24]...)
	two := append([]byte{0, 0, 0, 1, 1, 8, 0, 0}, x[:4]...)
	sum := crc32.ChecksumIEEE(x)
	two = append(two, byte(sum), byte(sum>>8), byte(sum>>16), byte(sum>>24))
	two = append(two, make([]byte, 16)...)
	want := []api.Pend{{At: 62, Bytes: one}, {At: 63, Bytes: two}} // 2, 8, 4 sectors; 36 of pair 0; 12 of pair 1
	holdPlan(t, c, d, 1, 3, x, want, api.OK)
	holdWrite(t, c, d, 1, 3, x, waiting(d, want...), api.OK)
}

// The numbers of the limit and of the errors, which the chapter and the document name.
func TestNumbers(t *testing.T) {
	if api.TrackBytes != long {
		t.Errorf("a track has %d bytes", api.TrackBytes)
	}
	for e, want := range map[api.Errno]int{api.OK: 0, api.ErrArg: 2, api.ErrBad: 8, api.ErrFull: 9, api.ErrSum: 20, api.ErrBusy: 60, api.ErrTrack: 80} {
		if int(e) != want {
			t.Errorf("the error %d, want %d", e, want)
		}
	}
}

// P8.1: a disk that has as many sectors as the config's, and those that have one less, one more, or far too few or many.
func TestCheckSectors(t *testing.T) {
	for _, c := range configs() {
		holdCheck(t, c, bare(c), api.OK)
		holdCheck(t, c, filled(c), api.OK)
		for _, many := range []int{0, 1, many(c) - 2, many(c) - 1, many(c) + 1, many(c) + 2, many(c) + 4, 1024} {
			d := bare(c)
			d.Sectors = d.Sectors[:min(many, len(d.Sectors))]
			for len(d.Sectors) < many {
				d.Sectors = append(d.Sectors, api.Sector{Bytes: make([]byte, size)})
			}
			refuseDisk(t, c, d)
		}
		full := crowded(bare(c), room)
		full.Sectors[0] = api.Sector{Bytes: make([]byte, size), Bad: true}
		holdCheck(t, c, full, api.OK)
	}
}

// P8.1: a config and a disk of another one: what counts is how many sectors it has.
func TestCheckOtherConfig(t *testing.T) {
	for _, a := range configs() {
		for _, b := range configs() {
			want := api.ErrBad
			if many(a) == many(b) {
				want = api.OK
			}
			holdCheck(t, a, bare(b), want)
		}
	}
}

// P8.1: configs that may not be, each for one field's sake, with disks of sizes that would fit.
func TestCheckConfig(t *testing.T) {
	fields := map[string]func(c *api.Config) *int{
		"Pairs":  func(c *api.Config) *int { return &c.Pairs },
		"Tracks": func(c *api.Config) *int { return &c.Tracks },
		"Area":   func(c *api.Config) *int { return &c.Area },
		"Most":   func(c *api.Config) *int { return &c.Most },
		"Window": func(c *api.Config) *int { return &c.Window },
		"Quiet":  func(c *api.Config) *int { return &c.Quiet },
	}
	beside := map[string][]int{"Pairs": {0, 4, 1}, "Tracks": {0, 17}, "Area": {3, 33}, "Most": {0, 3}, "Window": {0, 5}, "Quiet": {3, 65}}
	for name, field := range fields {
		for _, wrong := range append(beside[name], math.MaxInt, math.MinInt, -1) {
			c := sample()
			*field(&c) = wrong
			refuseDisk(t, c, bare(sample()))
			if fits := many(c); fits > 0 && fits <= 1024 {
				refuseDisk(t, c, bare(c))
			}
			refuseDisk(t, c, api.Disk{})
		}
	}
	refuseDisk(t, api.Config{}, api.Disk{})
	refuseDisk(t, api.Config{}, bare(sample()))
}

// wrongDisks are disks with as many sectors as the examples' config's, that may not be for the sake of one thing each.
func wrongDisks() map[string]api.Disk {
	all := map[string]api.Disk{}
	turn := func(name string, f func(d *api.Disk)) {
		d := filled(sample())
		f(&d)
		all[name] = d
	}
	for name, at := range map[string]int{"first": 0, "track's": 62, "last": 85} {
		turn(name+" sector of 31", func(d *api.Disk) { d.Sectors[at].Bytes = make([]byte, size-1) })
		turn(name+" sector of 33", func(d *api.Disk) { d.Sectors[at].Bytes = make([]byte, size+1) })
		turn(name+" sector of none", func(d *api.Disk) { d.Sectors[at].Bytes = nil })
		turn(name+" sector Bad, with bytes", func(d *api.Disk) { d.Sectors[at] = api.Sector{Bytes: bytes.Repeat([]byte{1}, size), Bad: true} })
		turn(name+" write of 31", func(d *api.Disk) { d.Cache = []api.Pend{{At: at, Bytes: make([]byte, size-1)}} })
		turn(name+" write of none", func(d *api.Disk) { d.Cache = []api.Pend{{At: at}} })
	}
	turn("too many writes", func(d *api.Disk) { *d = crowded(*d, room+1) })
	turn("a write behind the last sector", func(d *api.Disk) { d.Cache = []api.Pend{{At: 86, Bytes: make([]byte, size)}} })
	turn("a write ahead of the first sector", func(d *api.Disk) { d.Cache = []api.Pend{{At: -1, Bytes: make([]byte, size)}} })
	return all
}

// P8.1: disks that may not be.
func TestCheckDisk(t *testing.T) {
	for name, d := range wrongDisks() {
		refuseDisk(t, sample(), d)
		if t.Failed() {
			t.Fatal(name)
		}
	}
}

// P8.1: each track of each config is read where it stands, and each volume, in order.
func TestEachTrack(t *testing.T) {
	for _, c := range configs() {
		d := filled(c)
		for pair := range c.Pairs {
			var want [][]byte
			for n := range c.Tracks {
				holdRead(t, c, d, pair, n, lettersOf(pair, n), api.OK)
				want = append(want, lettersOf(pair, n))
			}
			holdVolume(t, c, d, pair, want, api.OK)
			holdVolume(t, c, bare(c), pair, slices.Repeat([][]byte{make([]byte, long)}, c.Tracks), api.OK)
		}
	}
}

// P8.2: each track of each config is written where it stands: into the slot that does not hold it, of the next version.
func TestEachTrackWritten(t *testing.T) {
	for _, c := range configs() {
		d := filled(c)
		eachTrack(c, func(pair, n int) {
			b := letters(pair + 3*n + 200)
			to := first(c, pair, n) + 2 - (pair+n)%2*2
			l := slot(uint32(4+n), sealed(b))
			want := []api.Pend{{At: to, Bytes: l[0]}, {At: to + 1, Bytes: l[1]}}
			holdPlan(t, c, d, pair, n, b, want, api.OK)
			holdWrite(t, c, d, pair, n, b, waiting(d, want...), api.OK)
		})
	}
}

// P8.1, P8.2: the first and the last pair and track are there, those beside are not, nor any far off.
func TestNoTrack(t *testing.T) {
	for _, c := range configs() {
		d, b := filled(c), letters(1)
		for pair := -2; pair <= 4; pair++ {
			for n := -2; n <= 18; n++ {
				if isPair(c, pair) && isTrack(c, n) {
					mustRead(t, c, d, pair, n)
					mustPlan(t, c, d, pair, n, b)
					continue
				}
				refuseAll(t, c, d, pair, n, b, api.ErrTrack)
			}
		}
		for _, no := range append(far(), -1, -c.Pairs, c.Pairs, c.Pairs+1) {
			holdVolume(t, c, d, no, nil, api.ErrTrack)
			refuseAll(t, c, d, no, 0, b, api.ErrTrack)
			refuseAll(t, c, d, no, -1, b, api.ErrTrack)
		}
		for _, no := range append(far(), -1, -c.Tracks, c.Tracks, c.Tracks+1) {
			refuseAll(t, c, d, 0, no, b, api.ErrTrack)
			refuseAll(t, c, d, c.Pairs-1, no, b, api.ErrTrack)
			refuseAll(t, c, d, -1, no, b, api.ErrTrack)
		}
	}
}

// P8.2: but 28 bytes are a track's.
func TestBytes(t *testing.T) {
	c := sample()
	for name, d := range cells() {
		for _, many := range []int{0, 1, 14, 24, 27, 29, 30, 31, 32, 33, 44, 48, 49, 56, 4096, 4097, 1 << 16} {
			refuseWrites(t, c, d, 1, 3, make([]byte, many), api.ErrArg)
		}
		refuseWrites(t, c, d, 1, 3, nil, api.ErrArg)
		for _, b := range [][]byte{letters(1), make([]byte, long), bytes.Repeat([]byte{255}, long), sealed(letters(1)[:24])} {
			holdAll(t, c, d, 1, 3, b)
			holdRead(t, c, mustWrite(t, c, d, 1, 3, b), 1, 3, b, api.OK)
		}
		if t.Failed() {
			t.Fatal(name)
		}
	}
}

// holdHeld holds what is read where the track's cell holds b: want, or, if that is nil, that it is not 28 bytes, sealed.
func holdHeld(t *testing.T, b, want []byte) {
	t.Helper()
	c, wantE := sample(), api.OK
	if want == nil {
		wantE = api.ErrSum
	}
	older := slot(1, sealed(letters(9)))
	for _, d := range []api.Disk{cellOf(slot(2, b)), cellOf(blank(), slot(2, b)), cellOf(older, slot(2, b)), cellOf(slot(2, b), older)} {
		holdRead(t, c, d, 1, 3, want, wantE)
		holdAll(t, c, d, 1, 3, letters(8))
	}
}

// P8.1: a cell that holds too few bytes, or too many, sealed or not; also none.
func TestHeldLength(t *testing.T) {
	all := append(letters(1), letters(2)...)
	for many := range 2*part + 1 {
		holdHeld(t, all[:many], nil)
		holdHeld(t, make([]byte, many), nil)
		if many >= 4 && many != long+4 {
			holdHeld(t, sealed(all[:many-4]), nil)
			holdHeld(t, sealed(make([]byte, many-4)), nil)
		}
	}
	holdHeld(t, sealed(all[:long]), all[:long])
	holdHeld(t, sealed(make([]byte, long)), make([]byte, long))
	holdHeld(t, append([]byte{0}, sealed(all[:long])...), nil)
	holdHeld(t, append(sealed(all[:long]), 0), nil)
}

// P8.1: each bit of the sealed bytes that is turned, and each two of the sum's.
func TestTurnedBits(t *testing.T) {
	whole := sealed(letters(1))
	turned := func(bits ...int) []byte {
		b := bytes.Clone(whole)
		for _, bit := range bits {
			b[bit/8] ^= 1 << (bit % 8)
		}
		return b
	}
	for bit := range 8 * len(whole) {
		holdHeld(t, turned(bit), nil)
		for other := max(bit+1, 8*long); other < 8*len(whole); other += 5 {
			holdHeld(t, turned(bit, other), nil)
		}
	}
	holdHeld(t, turned(), letters(1))
}

// P8.1: sums that are another one's, or in another order.
func TestWrongSums(t *testing.T) {
	b := letters(1)
	sum := crc32.ChecksumIEEE(b)
	for _, wrong := range []uint32{0, 1, 1<<32 - 1, ^sum, sum + 1, sum - 1, crc32.ChecksumIEEE(b[:part]), crc32.ChecksumIEEE(letters(2)), crc32.ChecksumIEEE(sealed(b))} {
		holdHeld(t, binary.LittleEndian.AppendUint32(bytes.Clone(b), wrong), nil)
	}
	holdHeld(t, binary.BigEndian.AppendUint32(bytes.Clone(b), sum), nil)
	holdHeld(t, append(binary.LittleEndian.AppendUint32(nil, sum), b...), nil)
	holdHeld(t, binary.LittleEndian.AppendUint32(bytes.Clone(b), sum), b)
}

// P8.1, P8.2: whatever stands in a cell: what it holds is the greater version of both slots; if neither holds anything, the track has noughts.
func TestCells(t *testing.T) {
	c := sample()
	for name, d := range cells() {
		holdAll(t, c, d, 1, 3, letters(20))
		if t.Failed() {
			t.Fatal(name)
		}
	}
	d := cellOf(slot(7, sealed(letters(1))))
	for i := range 4 { // the cell holds nothing any more
		d.Sectors[first(c, 1, 3)+i] = api.Sector{Bytes: make([]byte, size), Bad: true}
	}
	holdRead(t, c, d, 1, 3, make([]byte, long), api.OK)
	d = cellOf(slot(5, sealed(letters(1))), slot(7, letters(2)))
	holdRead(t, c, d, 1, 3, nil, api.ErrSum)
	torn := slot(7, letters(2))
	torn[1][4] = 0 // no part 1: the slot does not count
	holdRead(t, c, cellOf(slot(5, sealed(letters(1))), torn), 1, 3, letters(1), api.OK)
	holdRead(t, c, cellOf(slot(9, sealed(letters(1))), slot(7, letters(2))), 1, 3, letters(1), api.OK)
}

// P8.1: sectors count as they are read: by the last write in the cache, else by themselves.
func TestAsRead(t *testing.T) {
	c := sample()
	at := first(c, 1, 3)
	for name, d := range cells() {
		l := slot(40, sealed(letters(20)))
		good := []api.Pend{{At: at + 2, Bytes: l[0]}, {At: at + 3, Bytes: l[1]}}
		torn := api.Pend{At: at + 3, Bytes: make([]byte, size)}
		holdRead(t, c, waiting(d, good...), 1, 3, letters(20), api.OK)
		holdRead(t, c, waiting(waiting(d, torn), good...), 1, 3, letters(20), api.OK)
		l = slot(41, letters(21))
		broken := waiting(d, api.Pend{At: at, Bytes: l[0]}, api.Pend{At: at + 1, Bytes: l[1]})
		holdRead(t, c, broken, 1, 3, nil, api.ErrSum)
		for _, x := range []api.Disk{waiting(d, good...), waiting(d, good[0]), waiting(waiting(d, good...), torn), broken} {
			holdAll(t, c, x, 1, 3, letters(22))
		}
		if t.Failed() {
			t.Fatal(name)
		}
	}
}

// P8.1: a volume one or two of whose tracks are not 28 bytes, sealed; those of other pairs count for nothing.
func TestVolumeError(t *testing.T) {
	for _, c := range configs() {
		eachTrack(c, func(pair, n int) {
			d := filled(c)
			lay(d, first(c, pair, n), 0, slot(90, letters(1)))
			for other := range c.Pairs {
				holdVolumeAsTold(t, c, d, other)
			}
			holdVolume(t, c, d, pair, nil, api.ErrSum)
			lay(d, first(c, pair, c.Tracks-1-n), 1, slot(91, nil))
			holdVolume(t, c, d, pair, nil, api.ErrSum)
			holdVolume(t, c, d, -1, nil, api.ErrTrack)
			d.Sectors = d.Sectors[1:]
			holdVolume(t, c, d, pair, nil, api.ErrBad)
		})
	}
}

// P8.2: a write of one of the track's sectors that waits, of whichever slot; of any other sector it counts for nothing.
func TestBusy(t *testing.T) {
	c, b := sample(), letters(20)
	d := cellOf(slot(7, sealed(letters(1))))
	at := first(c, 1, 3)
	for sector := range d.Sectors {
		x := waiting(d, api.Pend{At: sector, Bytes: d.Sectors[sector].Bytes})
		holdAll(t, c, x, 1, 3, b)
		holdRead(t, c, x, 1, 3, letters(1), api.OK)
		if sector >= at && sector < at+4 {
			refuseWrites(t, c, x, 1, 3, b, api.ErrBusy)
			continue
		}
		mustWrite(t, c, x, 1, 3, b)
	}
	for _, c := range configs() { // what was written waits, till it is flushed
		d := mustWrite(t, c, bare(c), c.Pairs-1, c.Tracks-1, b)
		refuseWrites(t, c, d, c.Pairs-1, c.Tracks-1, b, api.ErrBusy)
		mustWrite(t, c, flushed(t, d), c.Pairs-1, c.Tracks-1, b)
		mustWrite(t, c, crashed(t, d), c.Pairs-1, c.Tracks-1, b)
	}
}

// P8.2: behind the greatest count there is no version more, whichever sector has it; what the track has is read.
func TestLastCount(t *testing.T) {
	c, b := sample(), letters(20)
	at := first(c, 1, 3)
	for i := range 4 {
		d := cellOf(slot(7, sealed(letters(1))), slot(7, sealed(letters(1))))
		for _, count := range []uint32{8, 1<<24 - 1, top - 1, top} {
			binary.BigEndian.PutUint32(d.Sectors[at+i].Bytes, count)
			holdAll(t, c, d, 1, 3, b)
			holdRead(t, c, d, 1, 3, letters(1), api.OK)
			if count == top {
				refuseWrites(t, c, d, 1, 3, b, api.ErrFull)
				continue
			}
			holdRead(t, c, mustWrite(t, c, d, 1, 3, b), 1, 3, b, api.OK)
		}
		mustWrite(t, c, d, 1, 4, b)
	}
	d := flushed(t, mustWrite(t, c, cellOf(slot(top-1, sealed(letters(1)))), 1, 3, b))
	holdRead(t, c, d, 1, 3, b, api.OK)
	refuseWrites(t, c, d, 1, 3, b, api.ErrFull)
}

// P8.2: a cache with just room enough, and with less; Plan asks for none.
func TestRoom(t *testing.T) {
	c, b := sample(), letters(20)
	for name, d := range cells() {
		want := mustPlan(t, c, d, 1, 3, b)
		if len(want) != 2 {
			t.Fatalf("%s: %s", name, shownWrites(want))
		}
		for _, many := range []int{0, 1, 61, 62, 63, 64} {
			x := crowded(d, many)
			holdPlan(t, c, x, 1, 3, b, want, api.OK)
			if many > 62 {
				holdWrite(t, c, x, 1, 3, b, api.Disk{}, api.ErrFull)
				continue
			}
			holdWrite(t, c, x, 1, 3, b, waiting(x, want...), api.OK)
		}
	}
}

// asked is what is handed in.
type asked struct {
	c       api.Config
	d       api.Disk
	pair, n int
	b       []byte
}

// fault is something wrong of what is handed in, and what is told of it by which calls.
type fault struct {
	e     api.Errno
	calls string // c: Check, r: Read, v: Volume, p: Plan, w: Write
	turn  func(a *asked)
}

// faults are in the order in which the chapter names their errors.
func faults() []fault {
	at := first(sample(), 1, 3)
	return []fault{
		{api.ErrBad, "crvpw", func(a *asked) { a.c.Quiet = 3 }},
		{api.ErrBad, "crvpw", func(a *asked) { a.d.Sectors[5].Bytes = nil }},
		{api.ErrBad, "crvpw", func(a *asked) { a.d.Sectors = append(a.d.Sectors, api.Sector{Bytes: make([]byte, size)}) }},
		{api.ErrTrack, "rvpw", func(a *asked) { a.pair = 2 }},
		{api.ErrTrack, "rpw", func(a *asked) { a.n = 9 }},
		{api.ErrArg, "pw", func(a *asked) { a.b = a.b[:27] }},
		{api.ErrSum, "rv", func(a *asked) { lay(a.d, at, 0, slot(2, letters(2))) }},
		{api.ErrBusy, "pw", func(a *asked) { a.d.Cache = append(a.d.Cache, api.Pend{At: at + 2, Bytes: make([]byte, size)}) }},
		{api.ErrFull, "pw", func(a *asked) { a.d.Sectors[at+3].Bytes = bytes.Repeat([]byte{255}, size) }},
		{api.ErrFull, "w", func(a *asked) { a.d = crowded(a.d, 63) }},
	}
}

// P1, P8.1, P8.2: of several errors the one named first is told, of all of them together.
func TestFirstError(t *testing.T) {
	all := faults()
	for which := range 1 << len(all) {
		a := asked{sample(), cellOf(slot(1, sealed(letters(1)))), 1, 3, letters(5)}
		told := map[rune]api.Errno{}
		for i, f := range all {
			if which>>i&1 == 0 {
				continue
			}
			f.turn(&a)
			for _, call := range f.calls {
				if told[call] == api.OK {
					told[call] = f.e
				}
			}
		}
		holdTold(t, a, told)
		if t.Failed() {
			t.Fatalf("the faults %b", which)
		}
	}
}

// holdTold holds that each call tells its error, or none, and beside one nothing.
func holdTold(t *testing.T, a asked, told map[rune]api.Errno) {
	t.Helper()
	holdCheck(t, a.c, a.d, told['c'])
	if b, e := track.Read(a.c, a.d, a.pair, a.n); e != told['r'] || e != api.OK && len(b) != 0 {
		t.Errorf("Read: %q, error %d; want %d", b, e, told['r'])
	}
	if l, e := track.Volume(a.c, a.d, a.pair); e != told['v'] || e != api.OK && len(l) != 0 {
		t.Errorf("Volume: %q, error %d; want %d", l, e, told['v'])
	}
	if l, e := track.Plan(a.c, a.d, a.pair, a.n, a.b); e != told['p'] || e != api.OK && len(l) != 0 {
		t.Errorf("Plan: %s, error %d; want %d", shownWrites(l), e, told['p'])
	}
	if d, e := track.Write(a.c, a.d, a.pair, a.n, a.b); e != told['w'] || e != api.OK && !nothing(d) {
		t.Errorf("Write: %s, error %d; want %d", shown(d), e, told['w'])
	}
}

// answer is what a call answers: the parts of which it is, and the lists in which these stand.
type answer struct {
	parts [][]byte
	ruin  func() // turns all of the lists' items
}

// answers are the calls, of the track 3 of pair 1.
func answers(t *testing.T) map[string]func(d api.Disk, b []byte) answer {
	c := sample()
	return map[string]func(d api.Disk, b []byte) answer{
		"Read": func(d api.Disk, b []byte) answer {
			got, _ := track.Read(c, d, 1, 3)
			return answer{[][]byte{got}, func() {}}
		},
		"Volume": func(d api.Disk, b []byte) answer {
			l, _ := track.Volume(c, d, 1)
			return answer{slices.Clone(l), func() { clear(l[:cap(l)]) }}
		},
		"Plan": func(d api.Disk, b []byte) answer {
			l := mustPlan(t, c, d, 1, 3, b)
			return answer{partsOf(api.Disk{Cache: l}), func() { clear(l[:cap(l)]) }}
		},
		"Write": func(d api.Disk, b []byte) answer {
			out := mustWrite(t, c, d, 1, 3, b)
			return answer{partsOf(out), func() { clear(out.Sectors[:cap(out.Sectors)]); clear(out.Cache[:cap(out.Cache)]) }}
		},
	}
}

func partsOf(d api.Disk) [][]byte {
	var l [][]byte
	for _, s := range d.Sectors {
		l = append(l, s.Bytes)
	}
	for _, p := range d.Cache {
		l = append(l, p.Bytes)
	}
	return l
}

func clones(parts [][]byte) [][]byte {
	var l [][]byte
	for _, b := range parts {
		l = append(l, bytes.Clone(b))
	}
	return l
}

func same(a, b [][]byte) bool { return slices.EqualFunc(a, b, bytes.Equal) }

// spoil turns each byte, also those in the capacities.
func spoil(parts ...[]byte) {
	for _, b := range parts {
		b = b[:cap(b)]
		for i := range b {
			b[i] += 99
		}
	}
}

const behind = "----"

// roomy is b with more behind its end.
func roomy(b []byte) []byte { return append(bytes.Clone(b), behind...)[:len(b)] }

// handed is d in other memory, all lists of which have more behind their ends.
func handed(d api.Disk) api.Disk {
	d = disk.Twin(d)
	for i := range d.Sectors {
		d.Sectors[i].Bytes = roomy(d.Sectors[i].Bytes)
	}
	for i := range d.Cache {
		d.Cache[i].Bytes = roomy(d.Cache[i].Bytes)
	}
	d.Sectors = append(d.Sectors, api.Sector{Bytes: roomy(nil)})[:len(d.Sectors)]
	d.Cache = append(d.Cache, api.Pend{At: -7}, api.Pend{At: -7})[:len(d.Cache)]
	return d
}

// isAsHanded tells whether all of d is as handed made it.
func isAsHanded(d, want api.Disk) bool {
	for _, b := range append(partsOf(d), d.Sectors[:len(d.Sectors)+1][len(d.Sectors)].Bytes) {
		if string(b[len(b):len(b)+len(behind)]) != behind {
			return false
		}
	}
	for _, p := range d.Cache[len(d.Cache) : len(d.Cache)+2] {
		if p.At != -7 || p.Bytes != nil {
			return false
		}
	}
	return disk.Same(d, want)
}

// P8.3: what is handed in is as it was, also behind its end; also where the calls tell an error.
func TestOnlyRead(t *testing.T) {
	c := sample()
	for name, want := range cells() {
		for _, many := range []int{0, 3, 62, 63} {
			want := crowded(want, many)
			d, b := handed(want), roomy(letters(20))
			for _, n := range []int{3, 9} {
				track.Check(c, d)
				track.Read(c, d, 1, n)
				track.Volume(c, d, 1)
				track.Plan(c, d, 1, n, b)
				track.Write(c, d, 1, n, b)
				track.Write(c, d, 1, n, b[:27])
			}
			if !isAsHanded(d, want) || string(b[:long+len(behind)]) != string(letters(20))+behind {
				t.Errorf("%s, %d writes: what was handed in is another one", name, many)
			}
		}
	}
}

// P8.3: a change of an answer changes no other one, nor what was handed in; a change of that changes no answer.
func TestNewMemory(t *testing.T) {
	for name, want := range cells() {
		for call, f := range answers(t) {
			for _, many := range []int{0, 1, 62} {
				want := crowded(want, many)
				d, b := handed(want), roomy(letters(20))
				if _, e := track.Volume(sample(), d, 1); e != api.OK && (call == "Read" || call == "Volume") {
					continue
				}
				one, two := f(d, b), f(d, b)
				parts := clones(two.parts)
				spoil(one.parts...)
				one.ruin()
				if !same(two.parts, parts) || !same(f(d, b).parts, parts) || !isAsHanded(d, want) || !bytes.Equal(b, letters(20)) {
					t.Fatalf("%s: what %s answers shares memory", name, call)
				}
				spoil(append(partsOf(d), b)...)
				clear(d.Sectors)
				clear(d.Cache[:cap(d.Cache)])
				if !same(two.parts, parts) {
					t.Fatalf("%s: what %s answers shares memory with what was handed in", name, call)
				}
				holdApart(t, call, two.parts)
			}
		}
	}
}

// holdApart holds that no part changes where those ahead of it, or those behind it, do, with their capacities.
func holdApart(t *testing.T, call string, parts [][]byte) {
	t.Helper()
	want := clones(parts)
	for i, b := range parts {
		if !bytes.Equal(b, want[i]) {
			t.Fatalf("%s: the part %d shares memory with one ahead of it", call, i)
		}
		spoil(b)
	}
	for i, b := range parts {
		copy(b, want[i])
	}
	for i, b := range slices.Backward(parts) {
		if !bytes.Equal(b, want[i]) {
			t.Fatalf("%s: the part %d shares memory with one behind it", call, i)
		}
		spoil(b)
	}
}

// P8.3: the same where tracks have the same bytes, or noughts, and where what was handed in is one piece of memory.
func TestOnePiece(t *testing.T) {
	c := sample()
	one := make([]byte, size)
	d := bare(c)
	for i := range d.Sectors {
		d.Sectors[i].Bytes = one
	}
	for call, f := range answers(t) {
		got := f(d, one[:long])
		spoil(got.parts...)
		if !bytes.Equal(one, make([]byte, size)) {
			t.Fatalf("what %s answers shares memory with what was handed in", call)
		}
		holdApart(t, call, f(d, one[:long]).parts)
	}
	alike := bare(c)
	eachTrack(c, func(pair, n int) { lay(alike, first(c, pair, n), 0, slot(1, sealed(letters(1)))) })
	l, e := track.Volume(c, alike, 1)
	if e != api.OK {
		t.Fatal(e)
	}
	holdApart(t, "Volume", l)
}

// holdOthers holds that all tracks but that one are read as they were, and so are all sectors that are not its own.
func holdOthers(t *testing.T, c api.Config, was, now api.Disk, pair, n int) {
	t.Helper()
	eachTrack(c, func(p, m int) {
		if p == pair && m == n {
			return
		}
		want, wantE := track.Read(c, was, p, m)
		holdRead(t, c, now, p, m, want, wantE)
	})
	at := first(c, pair, n)
	for sector := range was.Sectors {
		if sector >= at && sector < at+4 {
			continue
		}
		want, wantE := disk.Read(was, sector)
		if b, e := disk.Read(now, sector); !bytes.Equal(b, want) || e != wantE {
			t.Fatalf("the sector %d is another one behind a write of track %d of pair %d", sector, n, pair)
		}
	}
}

// P8.4: what was written is read, in the cache, and flushed; all other tracks stay.
func TestWrittenIsRead(t *testing.T) {
	for _, c := range []api.Config{config(1, 1, 3), config(2, 9, 4), config(3, 3, 5), config(1, 16, 32)} {
		for _, d := range []api.Disk{bare(c), filled(c)} {
			eachTrack(c, func(pair, n int) {
				b := letters(pair + 5*n + 100)
				x := mustWrite(t, c, d, pair, n, b)
				for _, y := range []api.Disk{x, flushed(t, x), crashed(t, x, 1, 1)} {
					holdRead(t, c, y, pair, n, b, api.OK)
					holdOthers(t, c, d, y, pair, n)
				}
			})
		}
	}
}

// P8.4: the same, all tracks one behind the other on one disk, some rounds of them.
func TestAllWritten(t *testing.T) {
	for _, c := range configs() {
		d := bare(c)
		for round := range 3 {
			want := make([][][]byte, c.Pairs)
			eachTrack(c, func(pair, n int) {
				b := letters(pair*31 + n*3 + round*57)
				d = mustWrite(t, c, d, pair, n, b)
				if n%2 == round%2 {
					d = flushed(t, d)
				}
				want[pair] = append(want[pair], b)
			})
			d = flushed(t, d)
			for pair := range c.Pairs {
				holdVolume(t, c, d, pair, want[pair], api.OK)
			}
		}
	}
}

// P8.4: whatever stands in its cell, with each number of the first writes in the cache, at each fate: behind a crash the track has what it had, or, where both are done, and then alone, what was written; all other tracks stay.
func TestCrash(t *testing.T) {
	c, b := sample(), letters(20)
	for name, d := range cells() {
		was, wasE := track.Read(c, d, 1, 3)
		writes := mustPlan(t, c, d, 1, 3, b)
		for many := range len(writes) + 1 {
			eachFates(many, func(fates []uint8) {
				y := crashed(t, waiting(d, writes[:many]...), fates...)
				if many == 2 && fates[0] == api.FateDone && fates[1] == api.FateDone {
					holdRead(t, c, y, 1, 3, b, api.OK)
				} else {
					holdRead(t, c, y, 1, 3, was, wasE)
				}
				holdOthers(t, c, d, y, 1, 3)
				mustWrite(t, c, y, 1, 3, b)
			})
		}
		if t.Failed() {
			t.Fatal(name)
		}
	}
}

// P8.4: the same at the first and the last track of each config, by Write.
func TestCrashAtEdges(t *testing.T) {
	for _, c := range configs() {
		for _, at := range [][2]int{{0, 0}, {0, c.Tracks - 1}, {c.Pairs - 1, 0}, {c.Pairs - 1, c.Tracks - 1}} {
			d, b := filled(c), letters(20)
			x := mustWrite(t, c, d, at[0], at[1], b)
			eachFates(2, func(fates []uint8) {
				want := lettersOf(at[0], at[1])
				if fates[0] == api.FateDone && fates[1] == api.FateDone {
					want = b
				}
				y := crashed(t, x, fates...)
				holdRead(t, c, y, at[0], at[1], want, api.OK)
				holdVolumeAsTold(t, c, y, at[0])
			})
		}
	}
}

// P8.4: over long runs of writes, flushes and crashes, of all tracks: each one has what it had, or what was written since to it.
func TestLongRuns(t *testing.T) {
	r := seeded(1)
	for _, c := range configs() {
		d := bare(c)
		had, next := map[[2]int]string{}, map[[2]int]string{}
		eachTrack(c, func(pair, n int) { had[[2]int{pair, n}] = string(make([]byte, long)) })
		for step := range 120 {
			at := [2]int{r.IntN(c.Pairs), r.IntN(c.Tracks)}
			b := letters(step)
			switch k := r.IntN(12); {
			case k < 8:
				out, e := track.Write(c, d, at[0], at[1], b)
				if _, busy := next[at]; busy != (e == api.ErrBusy) || !busy && e != api.OK && len(d.Cache) <= 62 {
					t.Fatalf("Write(%v, %s, %v): error %d", c, shown(d), at, e)
				}
				if e == api.OK {
					d, next[at] = out, string(b)
				}
			case k < 10:
				d = flushed(t, d)
				for at, b := range next {
					had[at] = b
				}
				clear(next)
			default:
				d = crashed(t, d, anyFates(r, room)...)
				settle(t, c, d, had, next)
			}
			holdNow(t, c, d, had, next)
		}
	}
}

// settle takes what the tracks have behind a crash, each of which may be the old one or the new one, as what they had.
func settle(t *testing.T, c api.Config, d api.Disk, had, next map[[2]int]string) {
	t.Helper()
	for at, b := range next {
		now := string(mustRead(t, c, d, at[0], at[1]))
		if now != b && now != had[at] {
			t.Fatalf("%v: %q is read behind a crash; it had %q, and %q was written", at, now, had[at], b)
		}
		had[at] = now
	}
	clear(next)
}

// holdNow holds that each track has what was last written.
func holdNow(t *testing.T, c api.Config, d api.Disk, had, next map[[2]int]string) {
	t.Helper()
	for pair := range c.Pairs {
		var want [][]byte
		for n := range c.Tracks {
			b, is := next[[2]int{pair, n}]
			if !is {
				b = had[[2]int{pair, n}]
			}
			want = append(want, []byte(b))
		}
		holdVolume(t, c, d, pair, want, api.OK)
	}
}

func anyFates(r *rand.Rand, many int) []uint8 {
	l := make([]uint8, many)
	for i := range l {
		l[i] = []uint8{0, 1, 1, 1, 2, 4, 255}[r.IntN(7)]
	}
	return l
}

// anyDisk is one of a config, of anything: most sectors of its tracks are of a text that is sealed, or nearly.
func anyDisk(r *rand.Rand, c api.Config) api.Disk {
	d := filled(c)
	eachTrack(c, func(pair, n int) {
		for which := range 2 {
			b := sealed(letters(r.IntN(99)))
			switch r.IntN(12) {
			case 0:
				b[r.IntN(len(b))] ^= byte(r.Uint32())
			case 1:
				b = b[:r.IntN(len(b)+1)]
			}
			version := []uint32{0, 1, 2, 3, 4, 5, 255, 256, top - 1, top}[r.IntN(10)]
			lay(d, first(c, pair, n), which, slot(version, b))
		}
	})
	for range r.IntN(4) {
		d.Sectors[r.IntN(len(d.Sectors))] = api.Sector{Bytes: make([]byte, size), Bad: true}
	}
	for range r.IntN(5) {
		from, to := r.IntN(len(d.Sectors)), r.IntN(len(d.Sectors))
		d = waiting(d, api.Pend{At: to, Bytes: d.Sectors[from].Bytes})
	}
	return crowded(d, r.IntN(room+1))
}

// P1: each call ends, and none panics, whatever comes; the answers are those of the chapter's words.
func TestWhatever(t *testing.T) {
	r := seeded(2)
	all := configs()
	for range 6000 {
		c := all[r.IntN(len(all))]
		d := anyDisk(r, c)
		pair, n, bytesOf := r.IntN(c.Pairs), r.IntN(c.Tracks), long
		switch r.IntN(16) {
		case 0:
			pair = far()[r.IntN(len(far()))]
		case 1:
			n = far()[r.IntN(len(far()))]
		case 2:
			pair, n = r.IntN(7)-2, r.IntN(22)-2
		case 3:
			bytesOf = r.IntN(60)
		case 4:
			c = all[r.IntN(len(all))]
		case 5:
			c.Tracks, c.Area = r.IntN(20)-1, r.IntN(36)
		case 6:
			d.Sectors[r.IntN(len(d.Sectors))].Bytes = make([]byte, r.IntN(size))
		case 7:
			d.Cache = append(d.Cache, api.Pend{At: far()[r.IntN(len(far()))], Bytes: make([]byte, size)})
		case 8:
			d.Sectors = d.Sectors[:r.IntN(len(d.Sectors))]
		}
		holdAll(t, c, d, pair, n, bytes.Repeat([]byte{byte(r.Uint32())}, bytesOf))
		if t.Failed() {
			t.FailNow()
		}
	}
}

// P8.2: what is written is what cell writes, of b, sealed, into a cell of width 2.
func TestAsCell(t *testing.T) {
	c := sample()
	for name, d := range cells() {
		x := mustWrite(t, c, d, 1, 3, letters(20))
		b, version, e := cell.Read(x, first(c, 1, 3), 2)
		_, was, _ := cell.Read(d, first(c, 1, 3), 2)
		if !bytes.Equal(b, sealed(letters(20))) || version <= was || e != api.OK {
			t.Errorf("%s: the cell holds %q, of version %d behind %d, error %d", name, b, version, was, e)
		}
	}
}

// P1: nothing is kept from call to call, whoever calls between.
func TestNothingIsKept(t *testing.T) {
	var all sync.WaitGroup
	for i, c := range []api.Config{sample(), config(1, 1, 3), config(3, 16, 32), sample()} {
		all.Add(1)
		go func() {
			defer all.Done()
			d, b := filled(c), letters(50+i)
			for range 30 {
				x, e := track.Write(c, d, 0, 0, b)
				if e != api.OK {
					t.Errorf("Write: error %d", e)
				}
				holdRead(t, c, x, 0, 0, b, api.OK)
				holdRead(t, c, d, 0, 0, lettersOf(0, 0), api.OK)
				holdVolumeAsTold(t, c, x, c.Pairs-1)
				holdRead(t, c, d, c.Pairs, 0, nil, api.ErrTrack)
			}
		}()
	}
	all.Wait()
}

package track_test

import (
	"bytes"
	"encoding/binary"
	"fmt"
	"hash/crc32"
	"math"
	"math/rand/v2"
	"slices"
	"testing"

	"catamaran/api"
	"catamaran/cell"
	"catamaran/disk"
	"catamaran/place"
	"catamaran/track"
)

const (
	size = 32 // bytes of a sector
	part = 24 // bytes of a part
	long = 28 // bytes of a track
	room = 64 // writes of a cache
	top  = 1<<32 - 1
)

func seeded(seed uint64) *rand.Rand { return rand.New(rand.NewPCG(seed, 8)) }

// far are numbers far from all that may be, of which some come back into it where a sum or a product wraps round.
func far() []int {
	return []int{
		math.MinInt, math.MinInt + 1, math.MinInt + 2, math.MinInt / 2, math.MinInt / 4, math.MinInt32, -256, -16,
		16, 64, 256, 1 << 32, 1<<32 + 1, 1<<62 + 1, math.MaxInt/4 + 1, math.MaxInt/2 + 1, math.MaxInt - 1, math.MaxInt,
	}
}

// config is one that may be, of whose numbers only those that place something are chosen.
func config(pairs, tracks, area int) api.Config {
	return api.Config{Pairs: pairs, Tracks: tracks, Area: area, Most: pairs, Window: 2, Quiet: 8}
}

// sample is the config of the chapter's examples, which is that of chapter 7.
func sample() api.Config { return config(2, 9, 4) }

// configs are those at the edges.
func configs() []api.Config {
	var l []api.Config
	for pairs := 1; pairs <= 3; pairs++ {
		for _, tracks := range []int{1, 2, 7, 8, 9, 16} {
			l = append(l, config(pairs, tracks, pairs+2), config(pairs, tracks, 32))
		}
	}
	return l
}

// first is the first of the four sectors of a track's cell, by the words of chapter 7.
func first(c api.Config, pair, n int) int {
	pages := (c.Tracks + 7) / 8
	return 2 + 2*c.Area + c.Pairs*pages + 4*(pair*c.Tracks+n)
}

// many is how many sectors the disk of a config has: the last track's cell is its end.
func many(c api.Config) int { return first(c, c.Pairs, 0) }

// letters is 28 bytes, none of which is a nought, and none the same as its neighbours.
func letters(seed int) []byte {
	b := make([]byte, long)
	for i := range b {
		b[i] = 'A' + byte((seed*7+i*5)%58)
	}
	return b
}

// sealed is b and its sum, by the words of chapter 2.
func sealed(b []byte) []byte {
	return binary.LittleEndian.AppendUint32(bytes.Clone(b), crc32.ChecksumIEEE(b))
}

// slot is the two sectors of a slot that holds b, by the words of chapter 6.
func slot(version uint32, b []byte) [2][]byte {
	var l [2][]byte
	for number := range l {
		rest := b[min(part*number, len(b)):min(part*number+part, len(b))]
		l[number] = make([]byte, size)
		binary.BigEndian.PutUint32(l[number], version)
		l[number][4], l[number][5] = byte(number), byte(len(rest))
		copy(l[number][8:], rest)
	}
	return l
}

// lay puts a slot into a cell that begins at first.
func lay(d api.Disk, first, which int, l [2][]byte) {
	for i, b := range l {
		d.Sectors[first+2*which+i] = api.Sector{Bytes: bytes.Clone(b)}
	}
}

// bare is a disk that fits, of noughts.
func bare(c api.Config) api.Disk {
	d := api.Disk{Sectors: make([]api.Sector, many(c))}
	for i := range d.Sectors {
		d.Sectors[i].Bytes = make([]byte, size)
	}
	return d
}

// lettersOf is what filled gives a track.
func lettersOf(pair, n int) []byte { return letters(20*pair + n + 1) }

// filled is a disk each track of which has bytes of its own: of each second one in slot 1. Its other sectors are of bytes that are none's: who takes one for a cell's has a count of 2^32 - 1.
func filled(c api.Config) api.Disk {
	d := bare(c)
	for i := range first(c, 0, 0) {
		d.Sectors[i].Bytes = bytes.Repeat([]byte{255}, size)
	}
	eachTrack(c, func(pair, n int) {
		lay(d, first(c, pair, n), (pair+n)%2, slot(uint32(3+n), sealed(lettersOf(pair, n))))
	})
	return d
}

// cellOf is a disk of the examples' config, filled, where the track 3 of pair 1 has a cell of these two slots.
func cellOf(slots ...[2][]byte) api.Disk {
	d := filled(sample())
	for which, l := range slots {
		lay(d, first(sample(), 1, 3), which, l)
	}
	return d
}

// blank is a slot of noughts.
func blank() [2][]byte { return [2][]byte{make([]byte, size), make([]byte, size)} }

// cells are such disks, in the ways in which a cell may stand there: some hold something, of one slot or of both, some nothing.
func cells() map[string]api.Disk {
	held, older := slot(7, sealed(letters(1))), slot(5, sealed(letters(2)))
	torn := [2][]byte{slot(9, sealed(letters(3)))[0], slot(8, sealed(letters(3)))[1]}
	all := map[string]api.Disk{}
	slots := map[string][2][]byte{"blank": blank(), "7": held, "5": older, "torn": torn, "7, unsealed": slot(7, letters(4))}
	for a, one := range slots {
		for b, two := range slots {
			all[a+" and "+b] = cellOf(one, two)
		}
	}
	for _, which := range []int{0, 1} {
		for i := range 2 {
			d := cellOf(held, older)
			d.Sectors[first(sample(), 1, 3)+2*which+i] = api.Sector{Bytes: make([]byte, size), Bad: true}
			all[fmt.Sprintf("7 and 5, %d of slot %d Bad", i, which)] = d
		}
	}
	return all
}

// waiting is d with these writes behind the others of its cache.
func waiting(d api.Disk, writes ...api.Pend) api.Disk {
	d = disk.Twin(d)
	d.Cache = append(d.Cache, disk.Twin(api.Disk{Cache: writes}).Cache...)
	return d
}

// crowded is d with so many writes of its first sector, which is no cell's, in the cache.
func crowded(d api.Disk, many int) api.Disk {
	d = disk.Twin(d)
	for i := len(d.Cache); i < many; i++ {
		d.Cache = append(d.Cache, api.Pend{At: i % 2, Bytes: bytes.Repeat([]byte{byte(i)}, size)})
	}
	return d
}

func crashed(t *testing.T, d api.Disk, fates ...uint8) api.Disk {
	t.Helper()
	out, e := disk.Crash(d, fates)
	if e != api.OK {
		t.Fatalf("Crash(%s, %v): error %d", shown(d), fates, e)
	}
	return out
}

func flushed(t *testing.T, d api.Disk) api.Disk {
	t.Helper()
	out, e := disk.Flush(d)
	if e != api.OK {
		t.Fatalf("Flush(%s): error %d", shown(d), e)
	}
	return out
}

// eachFates hands on all fates of so many writes.
func eachFates(many int, f func(fates []uint8)) {
	all := 1
	for range many {
		all *= 3
	}
	for n := range all {
		fates := make([]uint8, many)
		for i := range fates {
			fates[i] = uint8(n % 3)
			n /= 3
		}
		f(fates)
	}
}

func eachTrack(c api.Config, f func(pair, n int)) {
	for pair := range c.Pairs {
		for n := range c.Tracks {
			f(pair, n)
		}
	}
}

func shown(d api.Disk) string {
	at := []int{}
	for _, p := range d.Cache {
		at = append(at, p.At)
	}
	return fmt.Sprintf("%d sectors, writes of %v", len(d.Sectors), at)
}

func shownWrites(l []api.Pend) string {
	s := ""
	for _, p := range l {
		s += fmt.Sprintf("%d: %q, ", p.At, p.Bytes)
	}
	return s
}

func nothing(d api.Disk) bool { return len(d.Sectors) == 0 && len(d.Cache) == 0 }

func alikeWrites(a, b []api.Pend) bool { return disk.Same(api.Disk{Cache: a}, api.Disk{Cache: b}) }

func may(c api.Config, d api.Disk) bool {
	return place.Check(c) == api.OK && disk.Check(d) == api.OK && len(d.Sectors) == many(c)
}

func isPair(c api.Config, pair int) bool { return pair >= 0 && pair < c.Pairs }

func isTrack(c api.Config, n int) bool { return n >= 0 && n < c.Tracks }

// toldRead is what Read has to answer.
func toldRead(c api.Config, d api.Disk, pair, n int) ([]byte, api.Errno) {
	switch {
	case !may(c, d):
		return nil, api.ErrBad
	case !isPair(c, pair) || !isTrack(c, n):
		return nil, api.ErrTrack
	}
	switch b, _, e := cell.Read(d, first(c, pair, n), 2); {
	case e == api.ErrNone:
		return make([]byte, long), api.OK
	case len(b) == long+4 && bytes.Equal(b, sealed(b[:long])):
		return b[:long], api.OK
	}
	return nil, api.ErrSum
}

// refused is the error of Plan and Write that is not cell's.
func refused(c api.Config, d api.Disk, pair, n int, b []byte) api.Errno {
	switch {
	case !may(c, d):
		return api.ErrBad
	case !isPair(c, pair) || !isTrack(c, n):
		return api.ErrTrack
	case len(b) != long:
		return api.ErrArg
	}
	return api.OK
}

// holdAll holds that all calls answer what the chapter's words say, whatever is asked.
func holdAll(t *testing.T, c api.Config, d api.Disk, pair, n int, b []byte) {
	t.Helper()
	if may(c, d) {
		holdCheck(t, c, d, api.OK)
	} else {
		holdCheck(t, c, d, api.ErrBad)
	}
	was, e := toldRead(c, d, pair, n)
	holdRead(t, c, d, pair, n, was, e)
	holdVolumeAsTold(t, c, d, pair)
	if e := refused(c, d, pair, n, b); e != api.OK {
		refuseWrites(t, c, d, pair, n, b, e)
		return
	}
	l, e := cell.Plan(d, first(c, pair, n), 2, sealed(b))
	holdPlan(t, c, d, pair, n, b, l, e)
	out, e := cell.Write(d, first(c, pair, n), 2, sealed(b))
	holdWrite(t, c, d, pair, n, b, out, e)
}

func holdCheck(t *testing.T, c api.Config, d api.Disk, want api.Errno) {
	t.Helper()
	if e := track.Check(c, d); e != want {
		t.Errorf("Check(%v, %s): error %d, want %d", c, shown(d), e, want)
	}
}

// holdRead holds that the track has that, or that this error is told, and nothing beside.
func holdRead(t *testing.T, c api.Config, d api.Disk, pair, n int, want []byte, wantE api.Errno) {
	t.Helper()
	b, e := track.Read(c, d, pair, n)
	if string(b) != string(want) || e != wantE {
		t.Errorf("Read(%v, %s, %d, %d): %q, error %d; want %q, error %d", c, shown(d), pair, n, b, e, want, wantE)
	}
}

func holdVolume(t *testing.T, c api.Config, d api.Disk, pair int, want [][]byte, wantE api.Errno) {
	t.Helper()
	l, e := track.Volume(c, d, pair)
	if !slices.EqualFunc(l, want, bytes.Equal) || e != wantE {
		t.Errorf("Volume(%v, %s, %d): %q, error %d; want %q, error %d", c, shown(d), pair, l, e, want, wantE)
	}
}

// holdVolumeAsTold holds that Volume answers what is told of its tracks, one by one.
func holdVolumeAsTold(t *testing.T, c api.Config, d api.Disk, pair int) {
	t.Helper()
	var want [][]byte
	for n := range max(c.Tracks, 1) {
		b, e := toldRead(c, d, pair, n)
		if e != api.OK {
			holdVolume(t, c, d, pair, nil, e)
			return
		}
		want = append(want, b)
	}
	holdVolume(t, c, d, pair, want, api.OK)
}

func holdPlan(t *testing.T, c api.Config, d api.Disk, pair, n int, b []byte, want []api.Pend, wantE api.Errno) {
	t.Helper()
	l, e := track.Plan(c, d, pair, n, b)
	if !alikeWrites(l, want) || e != wantE {
		t.Errorf("Plan(%v, %s, %d, %d, %q): %s, error %d; want %s, error %d", c, shown(d), pair, n, b, shownWrites(l), e, shownWrites(want), wantE)
	}
}

func holdWrite(t *testing.T, c api.Config, d api.Disk, pair, n int, b []byte, want api.Disk, wantE api.Errno) {
	t.Helper()
	out, e := track.Write(c, d, pair, n, b)
	if !disk.Same(out, want) || e != wantE {
		t.Errorf("Write(%v, %s, %d, %d, %q): %s, error %d; want %s, error %d", c, shown(d), pair, n, b, shown(out), e, shown(want), wantE)
	}
}

func refuseWrites(t *testing.T, c api.Config, d api.Disk, pair, n int, b []byte, want api.Errno) {
	t.Helper()
	holdPlan(t, c, d, pair, n, b, nil, want)
	holdWrite(t, c, d, pair, n, b, api.Disk{}, want)
}

// refuseAll holds that all calls but Check tell this error of the track, and nothing beside.
func refuseAll(t *testing.T, c api.Config, d api.Disk, pair, n int, b []byte, want api.Errno) {
	t.Helper()
	holdRead(t, c, d, pair, n, nil, want)
	refuseWrites(t, c, d, pair, n, b, want)
}

// refuseDisk holds that all calls tell ErrBad, whatever else is right or wrong.
func refuseDisk(t *testing.T, c api.Config, d api.Disk) {
	t.Helper()
	holdCheck(t, c, d, api.ErrBad)
	for _, no := range []int{0, 1, -1, math.MaxInt, math.MinInt} {
		holdVolume(t, c, d, no, nil, api.ErrBad)
		for _, b := range [][]byte{letters(1), nil} {
			refuseAll(t, c, d, no, 0, b, api.ErrBad)
			refuseAll(t, c, d, 0, no, b, api.ErrBad)
		}
	}
}

func mustRead(t *testing.T, c api.Config, d api.Disk, pair, n int) []byte {
	t.Helper()
	b, e := track.Read(c, d, pair, n)
	if e != api.OK {
		t.Fatalf("Read(%v, %s, %d, %d): error %d", c, shown(d), pair, n, e)
	}
	return b
}

func mustPlan(t *testing.T, c api.Config, d api.Disk, pair, n int, b []byte) []api.Pend {
	t.Helper()
	l, e := track.Plan(c, d, pair, n, b)
	if e != api.OK {
		t.Fatalf("Plan(%v, %s, %d, %d, %q): error %d", c, shown(d), pair, n, b, e)
	}
	return l
}

func mustWrite(t *testing.T, c api.Config, d api.Disk, pair, n int, b []byte) api.Disk {
	t.Helper()
	out, e := track.Write(c, d, pair, n, b)
	if e != api.OK {
		t.Fatalf("Write(%v, %s, %d, %d, %q): error %d", c, shown(d), pair, n, b, e)
	}
	return out
}

package cell_test

import (
	"bytes"
	"encoding/binary"
	"fmt"
	"math/rand/v2"
	"slices"
	"strings"
	"testing"

	"catamaran/api"
	"catamaran/cell"
	"catamaran/disk"
)

const (
	size   = 32 // bytes of a sector
	part   = 24 // bytes of a part
	room   = 64 // writes of a cache
	most   = 1024
	widest = 4
	top    = 1<<32 - 1
)

func seeded(seed uint64) *rand.Rand { return rand.New(rand.NewPCG(seed, 6)) }

// letters is so many bytes, none of which is a nought, and none the same as its neighbours.
func letters(many int, seed byte) []byte {
	b := make([]byte, many)
	for i := range b {
		b[i] = 'A' + (seed*7+byte(i*5))%58
	}
	return b
}

// text is a part's text, by the chapter's words.
func text(version uint32, number int, b []byte) []byte {
	t := make([]byte, size)
	binary.BigEndian.PutUint32(t, version)
	t[4], t[5] = byte(number), byte(len(b))
	copy(t[8:], b)
	return t
}

// whole is a slot that holds b.
func whole(width int, version uint32, b []byte) [][]byte {
	var l [][]byte
	for number := range width {
		from, end := min(part*number, len(b)), min(part*number+part, len(b))
		l = append(l, text(version, number, b[from:end]))
	}
	return l
}

func noughts() []byte { return make([]byte, size) }

func blank(width int) [][]byte {
	var l [][]byte
	for range width {
		l = append(l, noughts())
	}
	return l
}

// gone is a slot of sectors that are Bad.
func gone(width int) [][]byte { return make([][]byte, width) }

// ahead is where a cell stands that laid lays; behind is how many sectors stand behind it.
const ahead, behind = 3, 2

// laid is a disk with a cell of these slots at ahead; a sector without bytes is Bad. All bytes of the sectors around it are 255: who takes one for the cell's has a count of 2^32 - 1.
func laid(slots ...[][]byte) api.Disk {
	var d api.Disk
	other := func(many int) {
		for range many {
			d.Sectors = append(d.Sectors, api.Sector{Bytes: bytes.Repeat([]byte{255}, size)})
		}
	}
	other(ahead)
	for _, b := range slices.Concat(slots...) {
		if b == nil {
			d.Sectors = append(d.Sectors, api.Sector{Bytes: noughts(), Bad: true})
			continue
		}
		d.Sectors = append(d.Sectors, api.Sector{Bytes: bytes.Clone(b)})
	}
	other(behind)
	return d
}

// waiting is d with these writes behind the others of its cache.
func waiting(d api.Disk, writes ...api.Pend) api.Disk {
	d = cloned(d)
	for _, p := range writes {
		d.Cache = append(d.Cache, api.Pend{At: p.At, Bytes: bytes.Clone(p.Bytes)})
	}
	return d
}

// crowded is d with so many writes of its last sector, which is none of a cell's, in the cache.
func crowded(d api.Disk, many int) api.Disk {
	d = cloned(d)
	for i := len(d.Cache); i < many; i++ {
		d.Cache = append(d.Cache, api.Pend{At: len(d.Sectors) - 1, Bytes: letters(size, byte(i))})
	}
	return d
}

// flushed is d with its cache written, by disk.
func flushed(t *testing.T, d api.Disk) api.Disk {
	t.Helper()
	out, e := disk.Flush(d)
	if e != api.OK {
		t.Fatalf("Flush(%s): error %d", shown(d), e)
	}
	return out
}

func crashed(t *testing.T, d api.Disk, fates ...uint8) api.Disk {
	t.Helper()
	out, e := disk.Crash(d, fates)
	if e != api.OK {
		t.Fatalf("Crash(%s, %v): error %d", shown(d), fates, e)
	}
	return out
}

// cloned is d in other memory, sector by sector and write by write.
func cloned(d api.Disk) api.Disk {
	var out api.Disk
	for _, s := range d.Sectors {
		out.Sectors = append(out.Sectors, api.Sector{Bytes: bytes.Clone(s.Bytes), Bad: s.Bad})
	}
	for _, p := range d.Cache {
		out.Cache = append(out.Cache, api.Pend{At: p.At, Bytes: bytes.Clone(p.Bytes)})
	}
	return out
}

func alike(a, b api.Disk) bool {
	return slices.EqualFunc(a.Sectors, b.Sectors, func(x, y api.Sector) bool {
		return x.Bad == y.Bad && string(x.Bytes) == string(y.Bytes)
	}) && alikeWrites(a.Cache, b.Cache)
}

func alikeWrites(a, b []api.Pend) bool {
	return slices.EqualFunc(a, b, func(x, y api.Pend) bool {
		return x.At == y.At && string(x.Bytes) == string(y.Bytes)
	})
}

func nothing(d api.Disk) bool { return len(d.Sectors) == 0 && len(d.Cache) == 0 }

// shown is d for a test's message, without the rest of long parts.
func shown(d api.Disk) string {
	var b strings.Builder
	fmt.Fprintf(&b, "%d sectors (", len(d.Sectors))
	for _, s := range d.Sectors[:min(len(d.Sectors), 12)] {
		fmt.Fprintf(&b, "%q %v, ", s.Bytes[:min(len(s.Bytes), size)], s.Bad)
	}
	fmt.Fprintf(&b, "), %d writes (%s)", len(d.Cache), shownWrites(d.Cache))
	return b.String()
}

func shownWrites(l []api.Pend) string {
	var b strings.Builder
	for _, p := range l[:min(len(l), 12)] {
		fmt.Fprintf(&b, "%d: %q, ", p.At, p.Bytes[:min(len(p.Bytes), size)])
	}
	return b.String()
}

// read is what is read of a sector, by the words of chapter 5.
func read(d api.Disk, at int) (b []byte, can bool) {
	b, can = d.Sectors[at].Bytes, !d.Sectors[at].Bad
	for _, p := range d.Cache {
		if p.At == at {
			b, can = p.Bytes, true
		}
	}
	return b, can
}

// holding is what a slot, or a cell, holds.
type holding struct {
	is      bool
	version uint32
	bytes   string
}

// slotHolds is what a slot holds whose first sector is at at, by the chapter's words, byte by byte.
func slotHolds(d api.Disk, at, width int) holding {
	var h holding
	for number := range width {
		b, can := read(d, at+number)
		if !can {
			return holding{}
		}
		version, many := binary.BigEndian.Uint32(b), int(b[5])
		if number == 0 {
			h.version = version
		}
		if version == 0 || version != h.version || int(b[4]) != number || many > part || b[6] != 0 || b[7] != 0 {
			return holding{}
		}
		if many > 0 && len(h.bytes) != part*number || strings.Trim(string(b[8+many:]), "\x00") != "" {
			return holding{}
		}
		h.bytes += string(b[8 : 8+many])
	}
	h.is = true
	return h
}

// cellHolds is what a cell holds, and the slot that does not hold it.
func cellHolds(d api.Disk, at, width int) (h holding, other int) {
	first, second := slotHolds(d, at, width), slotHolds(d, at+width, width)
	switch {
	case first.is && (!second.is || second.version <= first.version):
		return first, 1
	case second.is:
		return second, 0
	}
	return holding{}, 0
}

// greatest is a cell's count.
func greatest(d api.Disk, at, width int) uint32 {
	var count uint32
	for i := range 2 * width {
		if b, can := read(d, at+i); can {
			count = max(count, binary.BigEndian.Uint32(b))
		}
	}
	return count
}

func waits(d api.Disk, at, width int) bool {
	return slices.ContainsFunc(d.Cache, func(p api.Pend) bool { return p.At >= at && p.At < at+2*width })
}

// isThere tells whether there is such a cell, of a disk of so many sectors: sector by sector, so that no number near an end of int comes out of it as another one.
func isThere(many, at, width int) bool {
	if width < 1 || width > widest || at < 0 {
		return false
	}
	for range 2 * width {
		if at >= many {
			return false
		}
		at++
	}
	return true
}

// planned is what Plan has to answer, of a disk that may be.
func planned(d api.Disk, at, width int, b []byte) ([]api.Pend, api.Errno) {
	switch {
	case !isThere(len(d.Sectors), at, width):
		return nil, api.ErrArg
	case len(b) > part*width:
		return nil, api.ErrMany
	case waits(d, at, width):
		return nil, api.ErrBusy
	case greatest(d, at, width) == top:
		return nil, api.ErrFull
	}
	_, other := cellHolds(d, at, width)
	var l []api.Pend
	for i, t := range whole(width, greatest(d, at, width)+1, b) {
		l = append(l, api.Pend{At: at + other*width + i, Bytes: t})
	}
	return l, api.OK
}

// holdAll holds what all calls answer of a disk that may be, whatever the other arguments.
func holdAll(t *testing.T, d api.Disk, at, width int, b []byte) {
	t.Helper()
	switch h, _ := heldAt(d, at, width); {
	case !isThere(len(d.Sectors), at, width):
		refuseRead(t, d, at, width, api.ErrArg)
	case !h.is:
		refuseRead(t, d, at, width, api.ErrNone)
	default:
		holdRead(t, d, at, width, h.version, h.bytes)
	}
	writes, e := planned(d, at, width, b)
	if e != api.OK {
		refusePlan(t, d, at, width, b, e)
		refuseWrite(t, d, at, width, b, e)
		return
	}
	holdPlan(t, d, at, width, b, writes)
	if len(d.Cache)+width > room {
		refuseWrite(t, d, at, width, b, api.ErrFull)
		return
	}
	holdWrite(t, d, at, width, b, waiting(d, writes...))
}

func heldAt(d api.Disk, at, width int) (h holding, other int) {
	if !isThere(len(d.Sectors), at, width) {
		return holding{}, 0
	}
	return cellHolds(d, at, width)
}

func holdRead(t *testing.T, d api.Disk, at, width int, version uint32, want string) {
	t.Helper()
	if b, v, e := cell.Read(d, at, width); string(b) != want || v != version || e != api.OK {
		t.Errorf("Read(%s, %d, %d): %q, version %d, error %d; want %q, version %d", shown(d), at, width, b, v, e, want, version)
	}
}

func holdPlan(t *testing.T, d api.Disk, at, width int, b []byte, want []api.Pend) {
	t.Helper()
	if l, e := cell.Plan(d, at, width, b); !alikeWrites(l, want) || e != api.OK {
		t.Errorf("Plan(%s, %d, %d, %q): %s, error %d; want %s", shown(d), at, width, b, shownWrites(l), e, shownWrites(want))
	}
}

func holdWrite(t *testing.T, d api.Disk, at, width int, b []byte, want api.Disk) {
	t.Helper()
	if out, e := cell.Write(d, at, width, b); !alike(out, want) || e != api.OK {
		t.Errorf("Write(%s, %d, %d, %q): %s, error %d; want %s", shown(d), at, width, b, shown(out), e, shown(want))
	}
}

func refuseRead(t *testing.T, d api.Disk, at, width int, want api.Errno) {
	t.Helper()
	if b, v, e := cell.Read(d, at, width); len(b) != 0 || v != 0 || e != want {
		t.Errorf("Read(%s, %d, %d): %q, version %d, error %d; want nothing, error %d", shown(d), at, width, b, v, e, want)
	}
}

func refusePlan(t *testing.T, d api.Disk, at, width int, b []byte, want api.Errno) {
	t.Helper()
	if l, e := cell.Plan(d, at, width, b); len(l) != 0 || e != want {
		t.Errorf("Plan(%s, %d, %d, %q): %s, error %d; want nothing, error %d", shown(d), at, width, b, shownWrites(l), e, want)
	}
}

func refuseWrite(t *testing.T, d api.Disk, at, width int, b []byte, want api.Errno) {
	t.Helper()
	if out, e := cell.Write(d, at, width, b); !nothing(out) || e != want {
		t.Errorf("Write(%s, %d, %d, %q): %s, error %d; want nothing, error %d", shown(d), at, width, b, shown(out), e, want)
	}
}

func refuseAll(t *testing.T, d api.Disk, at, width int, b []byte, want api.Errno) {
	t.Helper()
	refuseRead(t, d, at, width, want)
	refusePlan(t, d, at, width, b, want)
	refuseWrite(t, d, at, width, b, want)
}

func mustRead(t *testing.T, d api.Disk, at, width int) ([]byte, uint32) {
	t.Helper()
	b, v, e := cell.Read(d, at, width)
	if e != api.OK {
		t.Fatalf("Read(%s, %d, %d): error %d", shown(d), at, width, e)
	}
	return b, v
}

func mustPlan(t *testing.T, d api.Disk, at, width int, b []byte) []api.Pend {
	t.Helper()
	l, e := cell.Plan(d, at, width, b)
	if e != api.OK {
		t.Fatalf("Plan(%s, %d, %d, %q): error %d", shown(d), at, width, b, e)
	}
	return l
}

func mustWrite(t *testing.T, d api.Disk, at, width int, b []byte) api.Disk {
	t.Helper()
	out, e := cell.Write(d, at, width, b)
	if e != api.OK {
		t.Fatalf("Write(%s, %d, %d, %q): error %d", shown(d), at, width, b, e)
	}
	return out
}

// spacious lays a disk's bytes into one list, with bytes between them, and its sectors and writes into longer ones.
func spacious(d api.Disk) (out api.Disk, memory []byte) {
	for _, b := range partsOf(d) {
		memory = append(append(memory, b...), "----"...)
	}
	at := 0
	cut := func(b []byte) []byte {
		from := at
		at += len(b) + 4
		return memory[from : from+len(b)]
	}
	for _, s := range d.Sectors {
		out.Sectors = append(out.Sectors, api.Sector{Bytes: cut(s.Bytes), Bad: s.Bad})
	}
	for _, p := range d.Cache {
		out.Cache = append(out.Cache, api.Pend{At: p.At, Bytes: cut(p.Bytes)})
	}
	out.Sectors = append(out.Sectors, api.Sector{Bytes: []byte("behind")})[:len(out.Sectors)]
	out.Cache = slices.Grow(out.Cache, room)
	for i := range room {
		out.Cache[:cap(out.Cache)][len(out.Cache)+i] = api.Pend{At: 77, Bytes: []byte("behind")}
	}
	return out, memory
}

// isBehind tells whether what spacious put behind a disk's lists is there still.
func isBehind(d api.Disk) bool {
	last := d.Sectors[:len(d.Sectors)+1][len(d.Sectors)]
	for _, p := range d.Cache[len(d.Cache) : len(d.Cache)+room] {
		if p.At != 77 || string(p.Bytes) != "behind" {
			return false
		}
	}
	return !last.Bad && string(last.Bytes) == "behind"
}

// spoil changes all of a disk's memory, also what lies in the capacities.
func spoil(d api.Disk) {
	sectors := d.Sectors[:cap(d.Sectors)]
	for i := range sectors {
		spoilBytes(sectors[i].Bytes)
		sectors[i] = api.Sector{Bytes: []byte("spoilt"), Bad: true}
	}
	spoilWrites(d.Cache)
}

func spoilWrites(l []api.Pend) {
	l = l[:cap(l)]
	for i := range l {
		spoilBytes(l[i].Bytes)
		l[i] = api.Pend{At: -9, Bytes: []byte("spoilt")}
	}
}

func spoilBytes(b []byte) {
	b = b[:cap(b)]
	for i := range b {
		b[i] += 99
	}
}

func partsOf(d api.Disk) [][]byte {
	var l [][]byte
	for _, s := range d.Sectors {
		l = append(l, s.Bytes)
	}
	return append(l, partsOfWrites(d.Cache)...)
}

func partsOfWrites(l []api.Pend) [][]byte {
	var parts [][]byte
	for _, p := range l {
		parts = append(parts, p.Bytes)
	}
	return parts
}

// holdApart holds that each part stays as it is when all those ahead of it, and then all those behind it, are spoilt, with their capacities.
func holdApart(t *testing.T, parts [][]byte) {
	t.Helper()
	var wants [][]byte
	for _, b := range parts {
		wants = append(wants, bytes.Clone(b))
	}
	for i, b := range parts {
		if !bytes.Equal(b, wants[i]) {
			t.Fatalf("part %d of %q shares memory with one ahead of it", i, wants)
		}
		spoilBytes(b)
	}
	for i, b := range parts {
		copy(b, wants[i])
	}
	for i, b := range slices.Backward(parts) {
		if !bytes.Equal(b, wants[i]) {
			t.Fatalf("part %d of %q shares memory with one behind it", i, wants)
		}
		spoilBytes(b)
	}
}

package cell_test

import (
	"bytes"
	"encoding/binary"
	"fmt"
	"math"
	"math/rand/v2"
	"slices"
	"testing"

	"catamaran/api"
	"catamaran/cell"
	"catamaran/disk"
)

// lengths are how many bytes stand at an edge, for a cell of that width.
func lengths(width int) []int {
	all := []int{0, 1, part - 1, part, part + 1, 2*part - 1, 2 * part, 2*part + 1, part*width - 1, part * width}
	all = slices.DeleteFunc(all, func(n int) bool { return n > part*width })
	slices.Sort(all)
	return slices.Compact(all)
}

// slots are slots of that width, in the ways in which one may stand there.
func slots(width int) map[string][][]byte {
	torn := whole(width, 6, letters(part*width, 1))
	torn[width-1] = text(5, width-1, nil)
	torn[0] = append(torn[0][:size-1:size-1], torn[0][size-1]+1)
	if width == 1 {
		torn[0] = text(6, 1, []byte("torn"))
	}
	spotted := whole(width, 8, letters(part*width, 2))
	spotted[width/2] = nil
	return map[string][][]byte{
		"blank":   blank(width),
		"gone":    gone(width),
		"torn":    torn,
		"spotted": spotted,
		"5":       whole(width, 5, letters(part*width, 3)),
		"7":       whole(width, 7, letters(part*width-1, 4)),
		"7 again": whole(width, 7, letters(part*(width-1)+1, 5)),
		"9 empty": whole(width, 9, nil),
		"12":      whole(width, 12, letters(1, 6)),
	}
}

// eachCell hands on a cell, at ahead, of each width and of each two such slots.
func eachCell(f func(name string, d api.Disk, width int)) {
	for width := 1; width <= widest; width++ {
		all := slots(width)
		for a, first := range all {
			for b, second := range all {
				f(fmt.Sprintf("width %d, %s and %s", width, a, b), laid(first, second), width)
			}
		}
	}
}

// eachFates hands on all fates of so many writes.
func eachFates(many int, f func(fates []uint8)) {
	fates := make([]uint8, many)
	for {
		f(fates)
		i := 0
		for i < many && fates[i] == 2 {
			fates[i] = 0
			i++
		}
		if i == many {
			return
		}
		fates[i]++
	}
}

// The chapter's examples.
func TestExamples(t *testing.T) {
	d, _ := disk.New(4)
	refuseRead(t, d, 0, 2, api.ErrNone)
	a := bytes.Repeat([]byte("a"), 30)
	row := func(l ...byte) []byte { return append(l, make([]byte, size-len(l))...) }
	first := []api.Pend{
		{At: 0, Bytes: append([]byte{0, 0, 0, 1, 0, 24, 0, 0}, a[:24]...)},
		{At: 1, Bytes: row(0, 0, 0, 1, 1, 6, 0, 0, 'a', 'a', 'a', 'a', 'a', 'a')},
	}
	holdPlan(t, d, 0, 2, a, first)
	holdWrite(t, d, 0, 2, a, waiting(d, first...))
	d = flushed(t, mustWrite(t, d, 0, 2, a))
	holdRead(t, d, 0, 2, 1, string(a))
	second := []api.Pend{
		{At: 2, Bytes: row(0, 0, 0, 2, 0, 1, 0, 0, 'b')},
		{At: 3, Bytes: row(0, 0, 0, 2, 1, 0, 0, 0)},
	}
	holdPlan(t, d, 0, 2, []byte("b"), second)
	holdWrite(t, d, 0, 2, []byte("b"), waiting(d, second...))
	d = mustWrite(t, d, 0, 2, []byte("b"))
	holdRead(t, d, 0, 2, 2, "b")
	d = crashed(t, d, api.FateDone)
	holdRead(t, d, 0, 2, 1, string(a))
	third := mustPlan(t, d, 0, 2, []byte("c"))
	if len(third) != 2 || third[0].At != 2 || !bytes.Equal(third[0].Bytes, row(0, 0, 0, 3, 0, 1, 0, 0, 'c')) {
		t.Errorf("behind the crash: %s", shownWrites(third))
	}
	holdRead(t, mustWrite(t, d, 0, 2, []byte("c")), 0, 2, 3, "c")
}

// P6.1, P6.2: the texts of all parts, at each width and at all numbers of bytes that have room.
func TestParts(t *testing.T) {
	for width := 1; width <= widest; width++ {
		for many := range part*width + 1 {
			b := letters(many, byte(many))
			d := laid(blank(width), blank(width))
			var want []api.Pend
			for i, t := range whole(width, 1, b) {
				want = append(want, api.Pend{At: ahead + i, Bytes: t})
			}
			holdPlan(t, d, ahead, width, b, want)
			holdWrite(t, d, ahead, width, b, waiting(d, want...))
			holdRead(t, waiting(d, want...), ahead, width, 1, string(b))
			holdRead(t, laid(whole(width, 1, b), blank(width)), ahead, width, 1, string(b))
			holdRead(t, laid(blank(width), whole(width, 1, b)), ahead, width, 1, string(b))
		}
	}
}

// P6.1, P6.2: bytes that are noughts, or look like a part's row, are bytes like others.
func TestAnyBytes(t *testing.T) {
	for width := 1; width <= widest; width++ {
		for _, b := range [][]byte{make([]byte, part*width), make([]byte, part*width-1), make([]byte, 1), bytes.Repeat([]byte{255}, part*width), text(9, 1, []byte("x"))[:part]} {
			d := mustWrite(t, laid(blank(width), blank(width)), ahead, width, b)
			holdRead(t, d, ahead, width, 1, string(b))
			d = flushed(t, d)
			holdRead(t, d, ahead, width, 1, string(b))
			holdAll(t, d, ahead, width, b)
		}
	}
}

// P6.1, P6.2: what a cell holds of each two slots, and into which one a write goes.
func TestTwoSlots(t *testing.T) {
	eachCell(func(name string, d api.Disk, width int) {
		for _, many := range lengths(width) {
			holdAll(t, d, ahead, width, letters(many, 9))
		}
		if t.Failed() {
			t.Fatal(name)
		}
	})
}

// P6.1, P6.2: the same, told version by version: the greater one is held, slot 0 if both are one; a write goes to the other slot, and to slot 0 if nothing is held.
func TestWhichSlot(t *testing.T) {
	versions := []uint32{0, 1, 2, 255, 256, 1<<16 + 1, 1 << 24, 1<<31 - 1, 1 << 31, top - 1}
	for width := 1; width <= widest; width++ {
		for _, x := range versions {
			for _, y := range versions {
				d := laid(whole(width, x, []byte("first")), whole(width, y, []byte("second")))
				to := ahead + width
				switch {
				case x == 0 && y == 0:
					refuseRead(t, d, ahead, width, api.ErrNone)
					to = ahead
				case x >= y:
					holdRead(t, d, ahead, width, x, "first")
				default:
					holdRead(t, d, ahead, width, y, "second")
					to = ahead
				}
				l := mustPlan(t, d, ahead, width, []byte("third"))
				if l[0].At != to || binary.BigEndian.Uint32(l[0].Bytes) != max(x, y)+1 {
					t.Errorf("width %d, versions %d and %d: %s; want it at %d", width, x, y, shownWrites(l), to)
				}
			}
		}
	}
}

// holdBroken holds that a cell holds nothing where that slot alone has something; that the other slot is held, if it holds something, even of a lesser version; and that a write leaves it as it is.
func holdBroken(t *testing.T, why string, slot [][]byte) {
	t.Helper()
	width := len(slot)
	other := whole(width, 2, []byte("held"))
	for _, d := range []api.Disk{laid(slot, blank(width)), laid(blank(width), slot), laid(slot, slot)} {
		refuseRead(t, d, ahead, width, api.ErrNone)
		holdAll(t, d, ahead, width, []byte("anew"))
		if l, e := cell.Plan(d, ahead, width, nil); e == api.OK && l[0].At != ahead {
			t.Errorf("%s: nothing is held, and the write goes to %d", why, l[0].At)
		}
	}
	for place, d := range []api.Disk{laid(slot, other), laid(other, slot)} {
		holdRead(t, d, ahead, width, 2, "held")
		holdAll(t, d, ahead, width, []byte("anew"))
		if l, e := cell.Plan(d, ahead, width, nil); e == api.OK && l[0].At != ahead+place*width {
			t.Errorf("%s: the write goes to %d, where the slot at %d is the broken one", why, l[0].At, ahead+place*width)
		}
	}
	if t.Failed() {
		t.Fatalf("%s: %q", why, slot)
	}
}

// P6.1: a slot whose parts are of two versions holds nothing.
func TestTwoVersions(t *testing.T) {
	for width := 2; width <= widest; width++ {
		for number := range width {
			for _, version := range []uint32{1, 8, 10, 9 + 1<<8, 9 + 1<<16, 9 + 1<<24, top} {
				for _, many := range lengths(width) {
					slot := whole(width, 9, letters(many, 1))
					slot[number] = whole(width, version, letters(many, 1))[number]
					holdBroken(t, fmt.Sprintf("part %d of version %d", number, version), slot)
				}
			}
		}
	}
}

// P6.1: a slot whose parts are in another order, or one of them there twice, holds nothing.
func TestWrongOrder(t *testing.T) {
	for width := 1; width <= widest; width++ {
		for _, many := range lengths(width) {
			texts := whole(width, 9, letters(many, 1))
			eachOrder(width, func(order []int) {
				slot := make([][]byte, width)
				for i, number := range order {
					slot[i] = texts[number]
				}
				if slices.IsSorted(order) && len(slices.Compact(slices.Clone(order))) == width {
					holdRead(t, laid(slot, blank(width)), ahead, width, 9, string(letters(many, 1)))
					return
				}
				holdBroken(t, fmt.Sprintf("parts in the order %v", order), slot)
			})
		}
		for number := range width {
			for _, wrong := range []int{1, 2, 3, 4, 5, 127, 128, 254, 255} {
				slot := whole(width, 9, letters(part*width, 1))
				slot[number][4] += byte(wrong)
				holdBroken(t, fmt.Sprintf("part %d with the number %d", number, slot[number][4]), slot)
			}
		}
	}
}

// eachOrder hands on all lists of so many numbers below so many.
func eachOrder(many int, f func(order []int)) {
	order := make([]int, many)
	all := 1
	for range many {
		all *= many
	}
	for n := range all {
		for i := range order {
			order[i] = n % many
			n /= many
		}
		f(order)
	}
}

// P6.1: a slot of version 0 holds nothing, also of noughts, or with one such part.
func TestVersionNought(t *testing.T) {
	for width := 1; width <= widest; width++ {
		for _, many := range lengths(width) {
			holdBroken(t, "version 0", whole(width, 0, letters(many, 1)))
			for number := range width {
				slot := whole(width, 9, letters(many, 1))
				clear(slot[number][:4])
				holdBroken(t, fmt.Sprintf("part %d of version 0", number), slot)
			}
		}
		holdBroken(t, "noughts", blank(width))
	}
}

// P6.1: a number of bytes that is another one than the part has, above 24 or not, makes it no part's text.
func TestWrongNumberOfBytes(t *testing.T) {
	for width := 1; width <= widest; width++ {
		for number := range width {
			for many := range 256 {
				slot := whole(width, 9, letters(part*width, 1))
				if many == part {
					continue
				}
				slot[number][5] = byte(many)
				holdBroken(t, fmt.Sprintf("part %d with %d bytes of 24", number, many), slot)
				if many > part { // also where all bytes are noughts
					slot = whole(width, 9, make([]byte, part*width))
					slot[number][5] = byte(many)
					holdBroken(t, fmt.Sprintf("part %d with %d bytes of noughts", number, many), slot)
				}
			}
		}
	}
}

// P6.1: one byte that is no nought where noughts stand makes a sector no part's text.
func TestNoNought(t *testing.T) {
	for width := 1; width <= widest; width++ {
		for _, many := range lengths(width) {
			for number := range width {
				has := min(max(many-part*number, 0), part)
				for place := range size {
					if place < 6 || place >= 8 && place < 8+has {
						continue
					}
					for _, x := range []byte{1, 128, 255} {
						slot := whole(width, 9, letters(many, 1))
						slot[number][place] = x
						holdBroken(t, fmt.Sprintf("part %d with %d bytes, and %d at %d", number, has, x, place), slot)
					}
				}
			}
		}
	}
}

// P6.1: where a part that is not full has one with bytes behind it, the slot holds nothing.
func TestGaps(t *testing.T) {
	each := []int{0, 1, 5, part - 1, part}
	for width := 2; width <= widest; width++ {
		eachOrder(len(each), func(order []int) {
			if slices.Max(order[width:]) > 0 {
				return // the rest counts for nothing: once is enough
			}
			var slot [][]byte
			all, gap := "", false
			for number := range width {
				b := letters(each[order[number]], byte(number))
				gap = gap || len(b) > 0 && len(all) < part*number
				slot, all = append(slot, text(9, number, b)), all+string(b)
			}
			if gap {
				holdBroken(t, fmt.Sprintf("parts of %v", order), slot)
				return
			}
			holdRead(t, laid(blank(width), slot), ahead, width, 9, all)
		})
	}
}

// P6.1: a slot with a sector that is Bad holds nothing, wherever it is, also where its part has no bytes.
func TestBad(t *testing.T) {
	for width := 1; width <= widest; width++ {
		for _, many := range lengths(width) {
			for number := range width {
				slot := whole(width, 9, letters(many, 1))
				slot[number] = nil
				holdBroken(t, fmt.Sprintf("sector %d is Bad", number), slot)
			}
		}
		holdBroken(t, "all are Bad", gone(width))
	}
}

// P6.1: each single byte of a slot that is turned, to each value: what is held then is what the chapter's words say.
func TestEachByte(t *testing.T) {
	for width := 1; width <= widest; width++ {
		b := letters(part*(width-1)+20, 1)
		for place := range size * width {
			for x := range 256 {
				slot := whole(width, 9, b)
				slot[place/size][place%size] = byte(x)
				d := laid(slot, blank(width))
				h, _ := cellHolds(d, ahead, width)
				if !h.is {
					refuseRead(t, d, ahead, width, api.ErrNone)
					continue
				}
				holdRead(t, d, ahead, width, h.version, h.bytes)
			}
		}
	}
}

// P6.1: sectors count as they are read: by the last write in the cache, else by themselves.
func TestAsRead(t *testing.T) {
	for width := 1; width <= widest; width++ {
		b := letters(part*width, 1)
		for _, first := range [][][]byte{blank(width), gone(width), whole(width, 9, []byte("older"))} {
			for place := range 2 {
				at := ahead + place*width
				sectors := [][][]byte{blank(width), blank(width)}
				sectors[place] = first
				d := laid(sectors...)
				for i, text := range whole(width, 8, b) {
					d = waiting(d, api.Pend{At: at + i, Bytes: noughts()}, api.Pend{At: at + i, Bytes: text})
				}
				holdRead(t, d, ahead, width, 8, string(b))
				for i := range width {
					holdAll(t, waiting(d, api.Pend{At: at + i, Bytes: noughts()}), ahead, width, b)
					refuseRead(t, waiting(d, api.Pend{At: at + i, Bytes: noughts()}), ahead, width, api.ErrNone)
					mended := waiting(d, api.Pend{At: at + i, Bytes: noughts()}, api.Pend{At: at + i, Bytes: whole(width, 8, b)[i]})
					holdRead(t, mended, ahead, width, 8, string(b))
				}
			}
		}
	}
}

// P6.1: widths that may not be, wherever the cell is; of several errors this one ahead of a slot's.
func TestWrongWidths(t *testing.T) {
	d := laid(whole(widest, 1, []byte("a")), blank(widest))
	d.Sectors = append(d.Sectors, make([]api.Sector, 500)...)
	for i := range d.Sectors {
		if d.Sectors[i].Bytes == nil {
			d.Sectors[i].Bytes = noughts()
		}
	}
	for _, width := range []int{0, -1, -2, -4, 5, 6, 8, 100, 255, 256, 257, 1 << 16, 1<<32 + 1, 1 << 62, 1<<63 - 1, math.MinInt, math.MinInt + 1, math.MinInt/2 + 1, math.MaxInt/2 + 1, math.MaxInt/24 + 1} {
		for _, at := range []int{0, 1, ahead, 100, len(d.Sectors) - 1, len(d.Sectors), -1, math.MaxInt, math.MinInt} {
			for _, many := range []int{0, 1, 1000} {
				refuseAll(t, d, at, width, make([]byte, many), api.ErrArg)
			}
		}
	}
}

// P6.1: a cell may stand at 0, and may end with the last sector; one sector less, and it is not there.
func TestPlaces(t *testing.T) {
	for width := 1; width <= widest; width++ {
		for many := 1; many <= 4*width+1; many++ {
			for at := -2 * width; at <= many+2*width; at++ {
				var d api.Disk
				for range many {
					d.Sectors = append(d.Sectors, api.Sector{Bytes: noughts()})
				}
				for i, t := range whole(width, 3, []byte("here")) {
					if at+i >= 0 && at+i < many {
						d.Sectors[at+i].Bytes = t
					}
				}
				if at >= 0 && at+2*width <= many {
					holdRead(t, d, at, width, 3, "here")
					holdAll(t, d, at, width, []byte("there"))
					continue
				}
				refuseAll(t, d, at, width, []byte("there"), api.ErrArg)
			}
		}
	}
}

// P6.1: numbers of sectors that are near the ends of int, and others that are none's.
func TestWrongPlaces(t *testing.T) {
	for _, many := range []int{1, 2, 8, 9, most} {
		var d api.Disk
		for range many {
			d.Sectors = append(d.Sectors, api.Sector{Bytes: noughts()})
		}
		for width := 1; width <= widest; width++ {
			for i := range 3 * widest {
				for _, at := range []int{math.MaxInt - i, math.MinInt + i, -1 - i, many + i, 1<<32 + i, -1<<32 + i, 1<<62 + i, math.MaxInt/2 + i, math.MinInt/2 + i} {
					refuseAll(t, d, at, width, []byte("x"), api.ErrArg)
				}
			}
			if at := many - 2*width; at >= 0 {
				holdAll(t, d, at, width, []byte("x"))
				refuseRead(t, d, at, width, api.ErrNone)
			}
			refuseAll(t, d, many-2*width+1, width, []byte("x"), api.ErrArg)
		}
	}
}

// P6.2: more than 24 bytes for each of the width's sectors.
func TestMany(t *testing.T) {
	eachCell(func(name string, d api.Disk, width int) {
		for _, more := range []int{1, 2, part, 1000, 1 << 16} {
			refusePlan(t, d, ahead, width, make([]byte, part*width+more), api.ErrMany)
			refuseWrite(t, d, ahead, width, make([]byte, part*width+more), api.ErrMany)
		}
		if _, e := cell.Plan(d, ahead, width, make([]byte, part*width)); e != api.OK {
			t.Errorf("%s: a full slot: error %d", name, e)
		}
	})
}

// P6.2: a write that waits of any sector of the cell, of whichever slot; of one beside it, it counts for nothing.
func TestBusy(t *testing.T) {
	eachCell(func(name string, d api.Disk, width int) {
		for at := range len(d.Sectors) {
			for _, b := range [][]byte{noughts(), text(40, 0, []byte("x")), d.Sectors[at].Bytes} {
				x := waiting(d, api.Pend{At: at, Bytes: b})
				if at >= ahead && at < ahead+2*width {
					refusePlan(t, x, ahead, width, []byte("b"), api.ErrBusy)
					refuseWrite(t, x, ahead, width, []byte("b"), api.ErrBusy)
				}
				holdAll(t, x, ahead, width, []byte("b"))
				holdAll(t, waiting(x, api.Pend{At: 0, Bytes: b}, api.Pend{At: len(d.Sectors) - 1, Bytes: b}), ahead, width, []byte("b"))
			}
		}
		if t.Failed() {
			t.Fatal(name)
		}
	})
	for width := 1; width <= widest; width++ { // what was written waits, till it is flushed
		d := mustWrite(t, laid(blank(width), blank(width)), ahead, width, []byte("b"))
		refusePlan(t, d, ahead, width, nil, api.ErrBusy)
		refuseWrite(t, d, ahead, width, nil, api.ErrBusy)
		mustPlan(t, flushed(t, d), ahead, width, nil)
		mustPlan(t, crashed(t, d), ahead, width, nil)
	}
}

// P6.2: the greatest number of all sectors that can be read is the count, also of one that is no part's text, or of no held slot; and the next version is one more.
func TestCount(t *testing.T) {
	for width := 1; width <= widest; width++ {
		for _, slot := range [][][]byte{blank(width), whole(width, 1, []byte("held"))} {
			for at := ahead; at < ahead+2*width; at++ {
				for _, count := range []uint32{0, 1, 2, 255, 256, 1<<24 - 1, 1 << 31, top - 2, top - 1, top} {
					d := laid(slot, blank(width))
					d.Sectors[at] = api.Sector{Bytes: noughts(), Bad: true}
					others := greatest(d, ahead, width)
					holdNext(t, d, width, others)
					d.Sectors[at] = api.Sector{Bytes: bytes.Repeat([]byte{200}, size)}
					binary.BigEndian.PutUint32(d.Sectors[at].Bytes, count)
					holdNext(t, d, width, max(count, others))
				}
			}
		}
	}
}

// holdNext holds that the version behind that count is planned, and read; or that there is none.
func holdNext(t *testing.T, d api.Disk, width int, count uint32) {
	t.Helper()
	holdAll(t, d, ahead, width, []byte("b"))
	if count == top {
		refusePlan(t, d, ahead, width, []byte("b"), api.ErrFull)
		refuseWrite(t, d, ahead, width, []byte("b"), api.ErrFull)
		return
	}
	for i, p := range mustPlan(t, d, ahead, width, []byte("b")) {
		if binary.BigEndian.Uint32(p.Bytes) != count+1 {
			t.Errorf("width %d, count %d: write %d is %q", width, count, i, p.Bytes)
		}
	}
	holdRead(t, mustWrite(t, d, ahead, width, []byte("b")), ahead, width, count+1, "b")
}

// P6.1, P6.2: counts at their edges in held slots: the last version is read; behind it there is none.
func TestLastVersions(t *testing.T) {
	for width := 1; width <= widest; width++ {
		for _, version := range []uint32{1, top - 1, top} {
			for place := range 2 {
				sectors := [][][]byte{blank(width), blank(width)}
				sectors[place] = whole(width, version, []byte("last"))
				holdRead(t, laid(sectors...), ahead, width, version, "last")
				holdNext(t, laid(sectors...), width, version)
			}
		}
		d := laid(whole(width, top-1, []byte("a")), blank(width))
		d = flushed(t, mustWrite(t, d, ahead, width, []byte("z")))
		holdRead(t, d, ahead, width, top, "z")
		holdNext(t, d, width, top)
		for i := range 2 * width { // all sectors Bad, but one
			d := laid(gone(width), gone(width))
			holdNext(t, d, width, 0)
			d.Sectors[ahead+i] = api.Sector{Bytes: text(top, 9, nil)}
			holdNext(t, d, width, top)
			d.Sectors[ahead+i] = api.Sector{Bytes: noughts()}
			holdNext(t, d, width, 0)
		}
	}
}

// P6.2, Write: a cache with just room enough, and with less; Plan asks for none.
func TestRoom(t *testing.T) {
	for width := 1; width <= widest; width++ {
		for many := range room + 1 {
			d := crowded(laid(whole(width, 4, []byte("a")), blank(width)), many)
			var want []api.Pend
			for i, t := range whole(width, 5, []byte("b")) {
				want = append(want, api.Pend{At: ahead + width + i, Bytes: t})
			}
			holdPlan(t, d, ahead, width, []byte("b"), want)
			holdRead(t, d, ahead, width, 4, "a")
			if many > room-width {
				refuseWrite(t, d, ahead, width, []byte("b"), api.ErrFull)
				continue
			}
			holdWrite(t, d, ahead, width, []byte("b"), waiting(d, want...))
		}
	}
}

// wrongDisks are disks that may not be, for the sake of one thing each, made of one that may be.
func wrongDisks(d api.Disk) map[string]api.Disk {
	all := map[string]api.Disk{"no sectors": {}, "writes alone": {Cache: []api.Pend{{At: 0, Bytes: noughts()}}}}
	turn := func(name string, f func(d *api.Disk)) {
		x := cloned(d)
		f(&x)
		all[name] = x
	}
	last := len(d.Sectors) - 1
	for name, at := range map[string]int{"first": 0, "cell's": ahead, "cell's second": ahead + 1, "last": last} {
		turn(name+" sector of 31", func(d *api.Disk) { d.Sectors[at].Bytes = make([]byte, size-1) })
		turn(name+" sector of 33", func(d *api.Disk) { d.Sectors[at].Bytes = make([]byte, size+1) })
		turn(name+" sector of none", func(d *api.Disk) { d.Sectors[at].Bytes = nil })
		turn(name+" sector Bad, with a byte", func(d *api.Disk) { d.Sectors[at] = api.Sector{Bytes: text(1, 0, nil), Bad: true} })
		turn(name+" write of 31", func(d *api.Disk) { d.Cache = append(d.Cache, api.Pend{At: at, Bytes: make([]byte, size-1)}) })
		turn(name+" write of none", func(d *api.Disk) { d.Cache = append(d.Cache, api.Pend{At: at}) })
	}
	turn("too many sectors", func(d *api.Disk) {
		for len(d.Sectors) <= most {
			d.Sectors = append(d.Sectors, api.Sector{Bytes: noughts()})
		}
	})
	turn("too many writes", func(d *api.Disk) { *d = crowded(*d, room+1) })
	turn("a write behind the last sector", func(d *api.Disk) { *d = waiting(*d, api.Pend{At: last + 1, Bytes: noughts()}) })
	turn("a write ahead of the first sector", func(d *api.Disk) { *d = waiting(*d, api.Pend{At: -1, Bytes: noughts()}) })
	return all
}

// P6.1: disks that may not be: disk.Check's error first, whatever else is wrong.
func TestWrongDisks(t *testing.T) {
	for width := 1; width <= widest; width++ {
		for name, d := range wrongDisks(laid(whole(width, 1, []byte("a")), blank(width))) {
			if e := disk.Check(d); e != api.ErrBad {
				t.Fatalf("%s: disk.Check: %d", name, e)
			}
			for _, at := range []int{ahead, 0, -1, len(d.Sectors), math.MaxInt, math.MinInt} {
				for _, w := range []int{width, 0, -1, 5, math.MaxInt, math.MinInt} {
					for _, many := range []int{0, 1, part*width + 1} {
						refuseAll(t, d, at, w, make([]byte, many), api.ErrBad)
					}
				}
			}
		}
	}
}

// P1, P6.1, P6.2: of several errors the one named first is told, of all of them together.
func TestFirstError(t *testing.T) {
	order := []api.Errno{api.ErrBad, api.ErrArg, api.ErrMany, api.ErrBusy, api.ErrFull, api.ErrFull}
	for width := 1; width <= widest; width++ {
		for faults := range 1 << len(order) {
			has := func(fault int) bool { return faults>>fault&1 == 1 }
			first := slices.IndexFunc([]int{0, 1, 2, 3, 4, 5}, has)
			d, b := laid(whole(width, 1, []byte("a")), blank(width)), []byte("b")
			if has(2) {
				b = make([]byte, part*width+1)
			}
			if has(3) {
				d = waiting(d, api.Pend{At: ahead + 2*width - 1, Bytes: noughts()})
			}
			if has(4) {
				d.Sectors[ahead].Bytes = text(top, 0, nil)
			}
			if has(5) {
				d = crowded(d, room)
			}
			if has(0) {
				d.Sectors[0].Bytes = nil
			}
			for _, place := range wrongCells(has(1), len(d.Sectors), width) {
				holdFirst(t, d, place[0], place[1], b, first, order)
			}
		}
	}
}

// wrongCells are places and widths of cells that are not there; or, where none of these is asked for, the one that is.
func wrongCells(wrong bool, many, width int) [][2]int {
	if !wrong {
		return [][2]int{{ahead, width}}
	}
	return [][2]int{{ahead, 0}, {ahead, -1}, {ahead, 5}, {-1, width}, {many - 2*width + 1, width}, {many, width}, {math.MaxInt, width}, {math.MinInt, width}}
}

// holdFirst holds that all calls tell the error of that place in the order (-1: none), as far as it is one of theirs.
func holdFirst(t *testing.T, d api.Disk, at, width int, b []byte, first int, order []api.Errno) {
	t.Helper()
	if first == 0 || first == 1 {
		refuseAll(t, d, at, width, b, order[first])
		return
	}
	if first < 0 {
		mustWrite(t, d, at, width, b)
		return
	}
	refuseWrite(t, d, at, width, b, order[first])
	if first < 5 {
		refusePlan(t, d, at, width, b, order[first])
		return
	}
	mustPlan(t, d, at, width, b)
}

// P6.3: what is handed in is as it was, also behind its end and between its parts.
func TestOnlyRead(t *testing.T) {
	eachCell(func(name string, want api.Disk, width int) {
		for _, many := range []int{0, 3, room} {
			want := crowded(want, many)
			d, memory := spacious(want)
			memory0 := bytes.Clone(memory)
			b := append(letters(part*width, 7), "----"...)
			b0 := bytes.Clone(b)
			cell.Read(d, ahead, width)
			cell.Plan(d, ahead, width, b[:part*width])
			cell.Write(d, ahead, width, b[:part*width])
			cell.Write(d, ahead, width, b[:1])
			cell.Write(d, ahead, width, b)
			cell.Write(d, -1, width, b[:1])
			cell.Write(d, 0, 1, b[:1])
			if !alike(d, want) || !bytes.Equal(memory, memory0) || !bytes.Equal(b, b0) || !isBehind(d) {
				t.Errorf("%s: %s was handed in, and is %s", name, shown(want), shown(d))
			}
		}
	})
}

// P6.3, Read: a change of an answer, or of what was handed in, changes nothing else.
func TestReadNewMemory(t *testing.T) {
	eachCell(func(name string, want api.Disk, width int) {
		h, _ := cellHolds(want, ahead, width)
		if !h.is {
			return
		}
		d, memory := spacious(want)
		one, _ := mustRead(t, d, ahead, width)
		two, _ := mustRead(t, d, ahead, width)
		spoilBytes(one)
		if string(two) != h.bytes || !alike(d, want) {
			t.Errorf("%s: what Read answers shares memory", name)
		}
		holdRead(t, d, ahead, width, h.version, h.bytes)
		spoilBytes(memory)
		spoil(d)
		if string(two) != h.bytes {
			t.Errorf("%s: what Read answers shares memory with what was handed in", name)
		}
	})
}

// P6.3, Plan: the same; and no two parts of an answer share memory.
func TestPlanNewMemory(t *testing.T) {
	eachCell(func(name string, want api.Disk, width int) {
		for _, many := range lengths(width) {
			d, memory := spacious(want)
			b := append(letters(many, 7), "----"...)
			b0 := bytes.Clone(b)
			one, two := mustPlan(t, d, ahead, width, b[:many]), mustPlan(t, d, ahead, width, b[:many])
			result, _ := planned(want, ahead, width, b0[:many])
			spoilWrites(one)
			if !alikeWrites(two, result) || !alike(d, want) || !bytes.Equal(b, b0) {
				t.Errorf("%s: what Plan answers shares memory", name)
			}
			holdPlan(t, d, ahead, width, b[:many], result)
			spoilBytes(memory)
			spoil(d)
			spoilBytes(b)
			if !alikeWrites(two, result) {
				t.Errorf("%s: what Plan answers shares memory with what was handed in", name)
			}
			holdApart(t, partsOfWrites(two))
		}
	})
}

// P6.3, Write: the same.
func TestWriteNewMemory(t *testing.T) {
	eachCell(func(name string, want api.Disk, width int) {
		for _, waits := range []int{0, 1, 2, room - width} {
			many := lengths(width)[waits%2+1]
			want := crowded(want, waits)
			d, memory := spacious(want)
			b := append(letters(many, 7), "----"...)
			b0 := bytes.Clone(b)
			one, two := mustWrite(t, d, ahead, width, b[:many]), mustWrite(t, d, ahead, width, b[:many])
			writes, _ := planned(want, ahead, width, b0[:many])
			result := waiting(want, writes...)
			spoil(one)
			if !alike(two, result) || !alike(d, want) || !bytes.Equal(b, b0) {
				t.Errorf("%s: what Write answers shares memory", name)
			}
			holdWrite(t, d, ahead, width, b[:many], result)
			spoilBytes(memory)
			spoil(d)
			spoilBytes(b)
			if !alike(two, result) {
				t.Errorf("%s: what Write answers shares memory with what was handed in", name)
			}
			holdApart(t, partsOf(two))
		}
	})
}

// P6.3: no two parts of an answer share memory, also where all those that were handed in are one.
func TestOneListOften(t *testing.T) {
	for width := 1; width <= widest; width++ {
		b := bytes.Repeat([]byte{7}, part*widest)
		one := text(7, 0, b[:part])
		d := api.Disk{Sectors: slices.Repeat([]api.Sector{{Bytes: one}}, 20)}
		for range room - width {
			d.Cache = append(d.Cache, api.Pend{At: 19, Bytes: one})
		}
		holdApart(t, partsOf(mustWrite(t, d, ahead, width, b[:part*width])))
		holdApart(t, partsOfWrites(mustPlan(t, d, ahead, width, one[:part])))
		holdApart(t, partsOf(mustWrite(t, d, ahead, width, d.Sectors[0].Bytes[:part])))
		if !bytes.Equal(one, text(7, 0, b[:part])) {
			t.Errorf("what was handed in is %q", one)
		}
	}
}

// P6.4: what was written is read, in the cache and flushed, of a version that is greater than each number that was there.
func TestWrittenIsRead(t *testing.T) {
	eachCell(func(name string, d api.Disk, width int) {
		for _, many := range lengths(width) {
			b := letters(many, 8)
			there := greatest(d, ahead, width)
			x := mustWrite(t, d, ahead, width, b)
			for _, y := range []api.Disk{x, flushed(t, x), crashed(t, x, slices.Repeat([]uint8{1}, width)...)} {
				if got, v := mustRead(t, y, ahead, width); !bytes.Equal(got, b) || v <= there {
					t.Errorf("%s: %q, of version %d, is read where %q was written; there was %d", name, got, v, b, there)
				}
			}
		}
	})
}

// P6.4: with some of the first writes of Plan in the cache, behind a crash a cell holds what it held, or b: that, where all of them are done.
func TestCrash(t *testing.T) {
	eachCell(func(name string, d api.Disk, width int) {
		was, _ := cellHolds(d, ahead, width)
		for _, many := range []int{0, 1, part*width - 1, part * width} {
			b := letters(many, 8)
			writes := mustPlan(t, d, ahead, width, b)
			for first := range len(writes) + 1 {
				x := waiting(d, writes[:first]...)
				eachFates(first, func(fates []uint8) {
					y := crashed(t, x, fates...)
					if first == width && !slices.ContainsFunc(fates, func(f uint8) bool { return f != api.FateDone }) {
						holdHeld(t, y, width, holding{true, greatest(d, ahead, width) + 1, string(b)})
						return
					}
					holdHeld(t, y, width, was)
				})
			}
		}
		if t.Failed() {
			t.Fatal(name)
		}
	})
}

// holdHeld holds that the cell at ahead holds that, or nothing.
func holdHeld(t *testing.T, d api.Disk, width int, want holding) {
	t.Helper()
	if !want.is {
		refuseRead(t, d, ahead, width, api.ErrNone)
		return
	}
	holdRead(t, d, ahead, width, want.version, want.bytes)
}

// P6.4: the same, where other writes are in the cache, ahead of those of Plan and between them: a cell of which nothing waits holds what it held, or b, and a crash more does nothing.
func TestCrashAmongOthers(t *testing.T) {
	r := seeded(1)
	for range 4000 {
		width := 1 + r.IntN(widest)
		d := anyCell(r, width)
		was, _ := cellHolds(d, ahead, width)
		b := letters(r.IntN(part*width+1), byte(r.Uint32()))
		writes, e := cell.Plan(d, ahead, width, b)
		if e != api.OK {
			t.Fatalf("Plan(%s, %d, %d, %q): error %d", shown(d), ahead, width, b, e)
		}
		x := d
		for _, p := range writes[:r.IntN(width+1)] {
			x = waiting(crowded(x, r.IntN(20)), p)
		}
		y := crashed(t, crowded(x, r.IntN(40)), anyFates(r, 50)...)
		now, _ := cellHolds(y, ahead, width)
		if now != was && now != (holding{true, greatest(d, ahead, width) + 1, string(b)}) {
			t.Errorf("width %d, %s: held %v, and %v behind a crash of %s", width, shown(d), was, now, shown(x))
		}
		holdHeld(t, y, width, now)
		holdHeld(t, crashed(t, y, anyFates(r, 5)...), width, now)
	}
}

func anyFates(r *rand.Rand, many int) []uint8 {
	l := make([]uint8, many)
	for i := range l {
		l[i] = []uint8{0, 1, 1, 1, 2, 4, 255}[r.IntN(7)]
	}
	return l
}

// anyCell is a disk with a cell of which nothing waits, and whose count is not the last one.
func anyCell(r *rand.Rand, width int) api.Disk {
	d := laid(anySlot(r, width), anySlot(r, width))
	for i := range 2 * width {
		if b := d.Sectors[ahead+i].Bytes; binary.BigEndian.Uint32(b) == top {
			b[3]--
		}
	}
	return d
}

// anySlot is often one that holds something, and else one that nearly does.
func anySlot(r *rand.Rand, width int) [][]byte {
	version := []uint32{1, 2, 3, 4, 5, 255, 256, top - 2, top - 1, top}[r.IntN(10)]
	slot := whole(width, version, letters(lengths(width)[r.IntN(len(lengths(width)))], byte(r.Uint32())))
	i := r.IntN(width)
	switch r.IntN(12) {
	case 0:
		slot = blank(width)
	case 1:
		slot[i] = nil
	case 2:
		slot[i][r.IntN(size)] ^= byte(r.Uint32())
	case 3:
		slot[i][r.IntN(8)] = byte(r.Uint32())
	case 4:
		slot[i] = text(version+1, i, []byte("x"))
	case 5:
		slot[i], slot[0] = slot[0], slot[i]
	case 6:
		slot[i] = text(version, i, letters(r.IntN(part+1), 3))
	}
	return slot
}

// P6.4: over long runs of writes, flushes and crashes, of two cells that stand beside one another: each holds what was last written and flushed, or one of what was written since; and its versions rise.
func TestLongRuns(t *testing.T) {
	r := seeded(2)
	for a := 1; a <= widest; a++ {
		for b := 1; b <= widest; b++ {
			d, e := disk.New(2*a + 2*b)
			if e != api.OK {
				t.Fatal(e)
			}
			cells := []*run{{at: 0, width: a}, {at: 2 * a, width: b}}
			for step := range 400 {
				c := cells[r.IntN(2)]
				switch k := r.IntN(10); {
				case k < 6 && !waits(d, c.at, c.width):
					text := fmt.Appendf(nil, "%0*d", r.IntN(part*c.width+1), step)
					text = text[:min(len(text), part*c.width)]
					d = c.write(t, d, text)
				case k < 8:
					d = flushed(t, d)
				default:
					d = crashed(t, d, anyFates(r, r.IntN(room))...)
				}
				for _, c := range cells {
					c.hold(t, d)
				}
			}
		}
	}
}

// run is a cell over a long run: what it holds if nothing that waits is done, and what it holds if all is.
type run struct {
	at, width int
	old, next holding
}

func (c *run) write(t *testing.T, d api.Disk, b []byte) api.Disk {
	t.Helper()
	there := greatest(d, c.at, c.width)
	d = mustWrite(t, d, c.at, c.width, b)
	_, v := mustRead(t, d, c.at, c.width)
	if v <= there {
		t.Fatalf("the version %d behind %d", v, there)
	}
	c.next = holding{true, v, string(b)}
	return d
}

func (c *run) hold(t *testing.T, d api.Disk) {
	t.Helper()
	var now holding
	b, v, e := cell.Read(d, c.at, c.width)
	if e == api.OK {
		now = holding{true, v, string(b)}
	} else if e != api.ErrNone {
		t.Fatalf("Read: error %d", e)
	}
	if waits(d, c.at, c.width) {
		if now != c.next {
			t.Fatalf("%v is read; %v was written", now, c.next)
		}
		return
	}
	if now != c.old && now != c.next {
		t.Fatalf("%v is read; want %v, or %v", now, c.old, c.next)
	}
	c.old, c.next = now, now
}

// P1: each call ends, and none panics, whatever comes; beside an error there is nothing, and the error is the one named first.
func TestWhatever(t *testing.T) {
	r := seeded(3)
	ends := []int{math.MinInt, math.MinInt + 1, -9, -1, 0, 1, 2, 3, 3, 3, 4, 5, 9, 1023, 1024, math.MaxInt - 7, math.MaxInt}
	for range 20000 {
		width := 1 + r.IntN(widest)
		d := laid(anySlot(r, width), anySlot(r, width))
		for range r.IntN(4) {
			d = waiting(d, api.Pend{At: r.IntN(len(d.Sectors)), Bytes: anySlot(r, 1)[0]})
			if last := &d.Cache[len(d.Cache)-1]; last.Bytes == nil {
				last.Bytes = noughts()
			}
		}
		if r.IntN(4) == 0 {
			d = crowded(d, room-r.IntN(6))
		}
		at, w := ahead, width
		if r.IntN(6) == 0 {
			at = ends[r.IntN(len(ends))]
		}
		if r.IntN(6) == 0 {
			w = ends[r.IntN(len(ends))]
		}
		b := letters(r.IntN(part*width+3), 1)
		if r.IntN(10) == 0 {
			spotWrong(r, &d)
		}
		if disk.Check(d) != api.OK {
			refuseAll(t, d, at, w, b, api.ErrBad)
			continue
		}
		holdAll(t, d, at, w, b)
	}
}

// spotWrong turns one thing of a disk, mostly so that it may not be.
func spotWrong(r *rand.Rand, d *api.Disk) {
	s := &d.Sectors[r.IntN(len(d.Sectors))]
	switch r.IntN(5) {
	case 0:
		s.Bytes = s.Bytes[:r.IntN(size)]
	case 1:
		s.Bad = true
	case 2:
		s.Bytes = nil
	case 3:
		d.Cache = append(d.Cache, api.Pend{At: len(d.Sectors), Bytes: noughts()})
	case 4:
		d.Cache = append(d.Cache, api.Pend{At: ahead, Bytes: make([]byte, r.IntN(size))})
	}
}

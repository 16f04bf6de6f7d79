package num_test

import (
	"bytes"
	"math"
	"slices"
	"testing"

	"catamaran/api"
	"catamaran/num"
)

// eights is as many sizes of 8.
func eights(many int) []int {
	return slices.Repeat([]int{8}, many)
}

// most is the greatest number that has room in so many bytes.
func most(size int) uint64 {
	return math.MaxUint64 >> (64 - 8*size)
}

// dice is a short rule for numbers that look like any ones, the same in each run.
type dice uint64

func (d *dice) roll() uint64 {
	*d = *d*6364136223846793005 + 1442695040888963407
	v := uint64(*d)
	return v ^ v>>29
}

func (d *dice) below(n int) int { return int(d.roll() >> 1 % uint64(n)) }

func (d *dice) sizes() []int {
	l := make([]int, d.below(api.MaxFields+1))
	for i := range l {
		l[i] = 1 + d.below(8)
	}
	return l
}

// numbers have room in these sizes; now and then one is an edge of its size.
func (d *dice) numbers(sizes []int) []uint64 {
	l := make([]uint64, len(sizes))
	for i, n := range sizes {
		switch d.below(4) {
		case 0:
			l[i] = most(n)
		case 1:
			l[i] = uint64(d.below(3))
		default:
			l[i] = d.roll() & most(n)
		}
	}
	return l
}

func mustWrite(t *testing.T, l []uint64, sizes []int) []byte {
	t.Helper()
	b, e := num.Write(l, sizes)
	if e != api.OK {
		t.Fatalf("Write(%v, %v): error %d", l, sizes, e)
	}
	return b
}

func mustRead(t *testing.T, b []byte, sizes []int) []uint64 {
	t.Helper()
	l, e := num.Read(b, sizes)
	if e != api.OK {
		t.Fatalf("Read(%v, %v): error %d", b, sizes, e)
	}
	return l
}

func refuseSize(t *testing.T, sizes []int, want api.Errno) {
	t.Helper()
	if n, e := num.Size(sizes); n != 0 || e != want {
		t.Errorf("Size(%v): %d, error %d; want 0, error %d", sizes, n, e, want)
	}
}

func refuseWrite(t *testing.T, l []uint64, sizes []int, want api.Errno) {
	t.Helper()
	if b, e := num.Write(l, sizes); len(b) != 0 || e != want {
		t.Errorf("Write(%v, %v): %v, error %d; want nothing, error %d", l, sizes, b, e, want)
	}
}

func refuseRead(t *testing.T, b []byte, sizes []int, want api.Errno) {
	t.Helper()
	if l, e := num.Read(b, sizes); len(l) != 0 || e != want {
		t.Errorf("Read(%v, %v): %v, error %d; want nothing, error %d", b, sizes, l, e, want)
	}
}

// P1.1, Size: sizes that may be.
func TestSize(t *testing.T) {
	for _, c := range []struct {
		sizes []int
		want  int
	}{
		{nil, 0},
		{[]int{}, 0},
		{[]int{1}, 1},
		{[]int{8}, 8},
		{[]int{2, 1}, 3},
		{[]int{1, 2, 3, 4, 5, 6, 7, 8}, 36},
		{slices.Repeat([]int{1}, 16), 16},
		{eights(16), 128},
	} {
		if n, e := num.Size(c.sizes); n != c.want || e != api.OK {
			t.Errorf("Size(%v): %d, error %d; want %d", c.sizes, n, e, c.want)
		}
	}
}

// badSizes are none that may be.
func badSizes() [][]int {
	return [][]int{
		{0}, {9}, {-1}, {math.MinInt}, {math.MaxInt},
		{0, 1}, {1, 0}, {9, 8}, {8, 9}, {1, -1, 1}, {4, 5, 9}, {-1, 2},
		{math.MaxInt, math.MaxInt, 3},
		append(eights(15), 0), append(eights(15), 9), append([]int{0}, eights(15)...),
		eights(17), slices.Repeat([]int{1}, 17), make([]int, 17), make([]int, 4096),
	}
}

// P1.1: where sizes may not be, that is told ahead of all else, by each call.
func TestBadSizes(t *testing.T) {
	for _, sizes := range badSizes() {
		refuseSize(t, sizes, api.ErrArg)
		many := make([]uint64, len(sizes))
		refuseWrite(t, many, sizes, api.ErrArg)
		for i := range many {
			many[i] = math.MaxUint64
		}
		refuseWrite(t, many, sizes, api.ErrArg)
		refuseWrite(t, nil, sizes, api.ErrArg)
		refuseRead(t, nil, sizes, api.ErrArg)
		for _, n := range []int{1, 8, 9, 16, 17, 128, 136} {
			refuseRead(t, make([]byte, n), sizes, api.ErrArg)
		}
	}
}

// P1.1: ordinary rows, the chapter's examples among them, both ways.
func TestRows(t *testing.T) {
	for _, c := range []struct {
		l     []uint64
		sizes []int
		row   []byte
	}{
		{nil, nil, nil},
		{[]uint64{258, 7}, []int{2, 1}, []byte{1, 2, 7}},
		{[]uint64{7, 258}, []int{1, 2}, []byte{7, 1, 2}},
		{[]uint64{0}, []int{1}, []byte{0}},
		{[]uint64{0}, []int{8}, make([]byte, 8)},
		{[]uint64{1}, []int{8}, []byte{0, 0, 0, 0, 0, 0, 0, 1}},
		{[]uint64{0x0102030405060708}, []int{8}, []byte{1, 2, 3, 4, 5, 6, 7, 8}},
		{[]uint64{0x01020304, 0, 0xfffe}, []int{4, 3, 3}, []byte{1, 2, 3, 4, 0, 0, 0, 0, 255, 254}},
		{
			[]uint64{0, 1, 2, 3, 4, 5, 6, 7, 8, 9, 10, 11, 12, 13, 14, 255}, slices.Repeat([]int{1}, 16),
			[]byte{0, 1, 2, 3, 4, 5, 6, 7, 8, 9, 10, 11, 12, 13, 14, 255},
		},
	} {
		if b := mustWrite(t, c.l, c.sizes); !bytes.Equal(b, c.row) {
			t.Errorf("Write(%v, %v): %v; want %v", c.l, c.sizes, b, c.row)
		}
		if l := mustRead(t, c.row, c.sizes); !slices.Equal(l, c.l) {
			t.Errorf("Read(%v, %v): %v; want %v", c.row, c.sizes, l, c.l)
		}
	}
}

// P1.1: the chapter's examples that are refused.
func TestRefusedExamples(t *testing.T) {
	refuseWrite(t, []uint64{256}, []int{1}, api.ErrMany)
	refuseWrite(t, []uint64{1}, []int{9}, api.ErrArg)
	refuseRead(t, []byte{1}, []int{2}, api.ErrShort)
}

// P1.1, Write: the greatest number that has room in a size, and the least that has none, at each place of a row.
func TestWriteEdges(t *testing.T) {
	for size := 1; size <= 8; size++ {
		for many := 1; many <= 16; many++ {
			sizes := slices.Repeat([]int{size}, many)
			for place := range many {
				l := make([]uint64, many)
				want := make([]byte, many*size)
				l[place] = most(size)
				for i := range size {
					want[place*size+i] = 255
				}
				if b := mustWrite(t, l, sizes); !bytes.Equal(b, want) {
					t.Errorf("Write(%v, %v): %v", l, sizes, b)
				}
				if got := mustRead(t, want, sizes); !slices.Equal(got, l) {
					t.Errorf("Read(%v, %v): %v", want, sizes, got)
				}
				if size < 8 {
					l[place] = most(size) + 1
					refuseWrite(t, l, sizes, api.ErrMany)
					l[place] = math.MaxUint64
					refuseWrite(t, l, sizes, api.ErrMany)
				}
			}
		}
	}
}

// P1.1, Write: as many numbers as sizes, and that is asked ahead of how great they are.
func TestWriteCount(t *testing.T) {
	for many := range api.MaxFields + 1 {
		sizes := slices.Repeat([]int{1}, many)
		for other := range api.MaxFields + 3 {
			if other == many {
				continue
			}
			refuseWrite(t, make([]uint64, other), sizes, api.ErrArg)
			refuseWrite(t, slices.Repeat([]uint64{256}, other), sizes, api.ErrArg)
		}
	}
}

// P1.1, Read: a text of just as many bytes.
func TestReadLength(t *testing.T) {
	for _, sizes := range [][]int{nil, {1}, {8}, {2, 1}, {3, 5, 1}, eights(16)} {
		n, e := num.Size(sizes)
		if e != api.OK {
			t.Fatal(sizes, e)
		}
		mustRead(t, make([]byte, n), sizes)
		for other := range n + 20 {
			if other != n {
				refuseRead(t, make([]byte, other), sizes, api.ErrShort)
			}
		}
	}
	// What lies in a text's capacity is none of its bytes.
	refuseRead(t, make([]byte, 2, 8), []int{2, 1}, api.ErrShort)
}

// P1.2: what is handed in is as it was, also behind its end.
func TestOnlyRead(t *testing.T) {
	for _, sizes := range append(badSizes(), nil, []int{1}, []int{2, 1}, eights(16)) {
		l := slices.Repeat([]uint64{200}, 40)
		b := bytes.Repeat([]byte{201}, 200)
		s := append(slices.Clone(sizes), 77, 78, 79)
		l0, b0, s0 := slices.Clone(l), slices.Clone(b), slices.Clone(s)
		for many := range 40 {
			num.Size(s[:len(sizes)])
			num.Write(l[:many], s[:len(sizes)])
		}
		for many := range 200 {
			num.Read(b[:many], s[:len(sizes)])
		}
		if !slices.Equal(l, l0) || !bytes.Equal(b, b0) || !slices.Equal(s, s0) {
			t.Errorf("sizes %v: what was handed in is changed", sizes)
		}
	}
}

// P1.2: a change of an answer, or of what was handed in, changes nothing else.
func TestNewMemory(t *testing.T) {
	l, sizes := []uint64{258, 7}, []int{2, 1}
	want := []byte{1, 2, 7}
	a, b := mustWrite(t, l, sizes), mustWrite(t, l, sizes)
	spoil(a)
	if !bytes.Equal(b, want) || !bytes.Equal(mustWrite(t, l, sizes), want) {
		t.Error("rows share memory")
	}
	clear(l)
	if !bytes.Equal(b, want) {
		t.Error("a row shares memory with the numbers")
	}
	x, y := mustRead(t, b, sizes), mustRead(t, b, sizes)
	spoil(x)
	numbers := []uint64{258, 7}
	if !slices.Equal(y, numbers) || !slices.Equal(mustRead(t, b, sizes), numbers) {
		t.Error("lists of numbers share memory")
	}
	clear(b)
	clear(sizes)
	if !slices.Equal(y, numbers) {
		t.Error("numbers share memory with the row")
	}
}

// spoil changes a list, and what lies in its capacity.
func spoil[T uint64 | byte](l []T) {
	l = l[:cap(l)]
	for i := range l {
		l[i] += 99
	}
}

// P1.3: there and back: what is written is read.
func TestThereAndBack(t *testing.T) {
	d := dice(1)
	for range 5000 {
		sizes := d.sizes()
		l := d.numbers(sizes)
		b := mustWrite(t, l, sizes)
		if n, _ := num.Size(sizes); len(b) != n {
			t.Fatalf("Write(%v, %v): %d bytes; Size: %d", l, sizes, len(b), n)
		}
		if got := mustRead(t, b, sizes); !slices.Equal(got, l) {
			t.Fatalf("sizes %v: %v came back as %v", sizes, l, got)
		}
	}
}

// P1.3: back and there: what is read, written again, is these bytes.
func TestBackAndThere(t *testing.T) {
	d := dice(2)
	for range 5000 {
		sizes := d.sizes()
		n, _ := num.Size(sizes)
		b := make([]byte, n)
		for i := range b {
			b[i] = byte(d.roll())
		}
		if got := mustWrite(t, mustRead(t, b, sizes), sizes); !bytes.Equal(got, b) {
			t.Fatalf("sizes %v: %v came back as %v", sizes, b, got)
		}
	}
}

// P1.3: rows of the same sizes stand in the order of their first number that differs.
func TestOrder(t *testing.T) {
	d := dice(3)
	for range 5000 {
		sizes := d.sizes()
		a, b := d.numbers(sizes), d.numbers(sizes)
		if len(sizes) > 0 { // else the first number alone would tell, nearly each time
			copy(b, a[:d.below(len(sizes)+1)])
		}
		got := bytes.Compare(mustWrite(t, a, sizes), mustWrite(t, b, sizes))
		if want := slices.Compare(a, b); got != want {
			t.Fatalf("sizes %v: %v and %v: the rows' order is %d; want %d", sizes, a, b, got, want)
		}
	}
}

// P1.3: numbers that follow one another do so as rows, too, where a digit goes over into the next.
func TestOrderOfNeighbours(t *testing.T) {
	for size := 2; size <= 8; size++ {
		for digit := 1; digit < size; digit++ {
			over := uint64(1) << (8 * digit)
			sizes := []int{1, size, 8}
			less := mustWrite(t, []uint64{5, over - 1, math.MaxUint64}, sizes)
			more := mustWrite(t, []uint64{5, over, 0}, sizes)
			if bytes.Compare(less, more) >= 0 {
				t.Errorf("size %d: the row of %d is not the lesser one: %v, %v", size, over, less, more)
			}
		}
	}
}

// P1: each call ends, and none panics, whatever comes; beside an error there is nothing.
func TestWhatever(t *testing.T) {
	d := dice(4)
	odd := []int{math.MinInt, -9, -1, 0, 1, 2, 8, 9, 256, math.MaxInt}
	for range 20000 {
		sizes := make([]int, d.below(20))
		for i := range sizes {
			sizes[i] = 1 + d.below(8)
			if d.below(12) == 0 {
				sizes[i] = odd[d.below(len(odd))]
			}
		}
		l := make([]uint64, len(sizes))
		if d.below(3) == 0 {
			l = make([]uint64, d.below(20))
		}
		for i := range l {
			l[i] = d.roll() >> d.below(64)
		}
		b := make([]byte, d.below(140))
		holdSize(t, sizes)
		holdWrite(t, l, sizes)
		holdRead(t, b, sizes)
	}
}

// may is the words of the chapter, said once more.
func may(sizes []int) bool {
	return len(sizes) <= 16 && !slices.ContainsFunc(sizes, func(n int) bool { return n < 1 || n > 8 })
}

func sum(sizes []int) int {
	n := 0
	for _, x := range sizes {
		n += x
	}
	return n
}

func holdSize(t *testing.T, sizes []int) {
	t.Helper()
	n, e := num.Size(sizes)
	switch {
	case !may(sizes):
		refuseSize(t, sizes, api.ErrArg)
	case e != api.OK || n != sum(sizes):
		t.Errorf("Size(%v): %d, error %d", sizes, n, e)
	}
}

func holdWrite(t *testing.T, l []uint64, sizes []int) {
	t.Helper()
	if !may(sizes) || len(l) != len(sizes) {
		refuseWrite(t, l, sizes, api.ErrArg)
		return
	}
	for i, v := range l {
		if v > most(sizes[i]) {
			refuseWrite(t, l, sizes, api.ErrMany)
			return
		}
	}
	mustWrite(t, l, sizes)
}

func holdRead(t *testing.T, b []byte, sizes []int) {
	t.Helper()
	switch {
	case !may(sizes):
		refuseRead(t, b, sizes, api.ErrArg)
	case len(b) != sum(sizes):
		refuseRead(t, b, sizes, api.ErrShort)
	default:
		mustRead(t, b, sizes)
	}
}

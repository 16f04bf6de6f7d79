package crc_test

import (
	"bytes"
	"hash/crc32"
	"math"
	"math/rand/v2"
	"slices"
	"testing"

	"catamaran/api"
	"catamaran/crc"
)

const (
	most   = 4096 // bytes that may be sealed
	behind = 4    // bytes of a sum
)

// known are texts whose sums are known from elsewhere, the chapter's examples ahead.
func known() []struct {
	text string
	sum  uint32
} {
	return []struct {
		text string
		sum  uint32
	}{
		{"", 0},
		{"123456789", 0xcbf43926},
		{"a", 0xe8b7be43},
		{"abc", 0x352441c2},
		{"\x00", 0xd202ef8d},
		{"\x00\x00\x00\x00", 0x2144df1c},
		{"\xff", 0xff000000},
		{"\xff\xff\xff\xff", 0xffffffff},
		{"The quick brown fox jumps over the lazy dog", 0x414fa339},
	}
}

func seeded(seed uint64) *rand.Rand { return rand.New(rand.NewPCG(seed, 2)) }

func anyBytes(r *rand.Rand, many int) []byte {
	b := make([]byte, many)
	for i := range b {
		b[i] = byte(r.Uint32())
	}
	return b
}

// spelt is the chapter's words for a sum, by polynomials: what is left of the text's bits, by long division.
func spelt(b []byte) uint32 {
	all := make([]bool, 8*len(b)+32)
	for i := range 8 * len(b) {
		all[i] = b[i/8]>>(i%8)&1 == 1
	}
	for i := range 32 {
		all[i] = !all[i]
	}
	for i := range 8 * len(b) {
		if !all[i] {
			continue
		}
		all[i] = false
		for k := range 32 {
			if uint32(0xedb88320)>>(31-k)&1 == 1 {
				all[i+32-k] = !all[i+32-k]
			}
		}
	}
	var sum uint32
	for i := range 32 {
		if !all[8*len(b)+i] {
			sum |= 1 << i
		}
	}
	return sum
}

// lowestFirst is a sum's four bytes.
func lowestFirst(sum uint32) []byte {
	return []byte{byte(sum), byte(sum >> 8), byte(sum >> 16), byte(sum >> 24)}
}

func mustSeal(t *testing.T, b []byte) []byte {
	t.Helper()
	s, e := crc.Seal(b)
	if e != api.OK {
		t.Fatalf("Seal of %d bytes: error %d", len(b), e)
	}
	return s
}

func mustOpen(t *testing.T, s []byte) []byte {
	t.Helper()
	b, e := crc.Open(s)
	if e != api.OK {
		t.Fatalf("Open of %d bytes: error %d", len(s), e)
	}
	return b
}

func refuseSeal(t *testing.T, b []byte, want api.Errno) {
	t.Helper()
	if s, e := crc.Seal(b); len(s) != 0 || e != want {
		t.Errorf("Seal of %d bytes: %d bytes, error %d; want none, error %d", len(b), len(s), e, want)
	}
}

func refuseOpen(t *testing.T, s []byte, want api.Errno) {
	t.Helper()
	if b, e := crc.Open(s); len(b) != 0 || e != want {
		t.Errorf("Open of %d bytes: %d bytes, error %d; want none, error %d", len(s), len(b), e, want)
	}
}

// P2.1, Sum: the chapter's examples, and others that are known.
func TestSumKnown(t *testing.T) {
	for _, c := range known() {
		if n := crc.Sum([]byte(c.text)); n != c.sum {
			t.Errorf("Sum(%q): %x; want %x", c.text, n, c.sum)
		}
	}
	if n := crc.Sum(nil); n != 0 {
		t.Errorf("Sum(nil): %x; want 0", n)
	}
}

// P2.1, Sum: each byte, and bytes of any number: also more than may be sealed.
func TestSum(t *testing.T) {
	for x := range 256 {
		b := []byte{byte(x)}
		if n, want := crc.Sum(b), spelt(b); n != want {
			t.Errorf("Sum(%v): %x; want %x", b, n, want)
		}
	}
	r := seeded(1)
	for many := range 70 {
		for range 20 {
			b := anyBytes(r, many)
			if n, want := crc.Sum(b), spelt(b); n != want || n != crc32.ChecksumIEEE(b) {
				t.Fatalf("Sum(%v): %x; want %x", b, n, want)
			}
		}
	}
	for _, many := range []int{4092, 4095, 4096, 4097, 4100, 4101, 65536, 1 << 20} {
		b := anyBytes(r, many)
		if n, want := crc.Sum(b), crc32.ChecksumIEEE(b); n != want {
			t.Errorf("Sum of %d bytes: %x; want %x", many, n, want)
		}
	}
}

// P2.1, More: a text cut at each place, the ends among them.
func TestMore(t *testing.T) {
	r := seeded(2)
	for _, many := range []int{0, 1, 2, 3, 4, 5, 9, 64, 200} {
		b := anyBytes(r, many)
		want := crc32.ChecksumIEEE(b)
		for cut := range many + 1 {
			if n := crc.More(crc.Sum(b[:cut]), b[cut:]); n != want {
				t.Errorf("%v cut at %d: %x; want %x", b, cut, n, want)
			}
		}
	}
	long := anyBytes(r, 10000)
	for _, cut := range []int{0, 1, 4095, 4096, 4097, 9999, 10000} {
		if n, want := crc.More(crc.Sum(long[:cut]), long[cut:]), crc32.ChecksumIEEE(long); n != want {
			t.Errorf("10000 bytes cut at %d: %x; want %x", cut, n, want)
		}
	}
}

// P2.1, More: sums that go on more than once, and from no bytes on.
func TestMoreAgain(t *testing.T) {
	r := seeded(3)
	for range 500 {
		b := anyBytes(r, r.IntN(100))
		one, two := r.IntN(len(b)+1), r.IntN(len(b)+1)
		one, two = min(one, two), max(one, two)
		n := crc.More(crc.More(crc.More(0, b[:one]), b[one:two]), b[two:])
		if want := crc32.ChecksumIEEE(b); n != want {
			t.Fatalf("%v cut at %d and %d: %x; want %x", b, one, two, n, want)
		}
	}
}

// P2.1, More: any word is a sum of some bytes; no bytes more leave it.
func TestMoreAnySum(t *testing.T) {
	sums := []uint32{0, 1, 0x80000000, 0xedb88320, 0xcbf43926, math.MaxUint32 - 1, math.MaxUint32}
	r := seeded(4)
	for range 500 {
		sums = append(sums, r.Uint32())
	}
	for _, sum := range sums {
		if crc.More(sum, nil) != sum || crc.More(sum, []byte{}) != sum {
			t.Errorf("More(%x, no bytes) is not that sum", sum)
		}
		b := anyBytes(r, r.IntN(40))
		if n, want := crc.More(sum, b), crc32.Update(sum, crc32.IEEETable, b); n != want {
			t.Errorf("More(%x, %v): %x; want %x", sum, b, n, want)
		}
	}
}

// P2.2, Seal: a text, and its sum behind it, the lowest byte first.
func TestSeal(t *testing.T) {
	for _, c := range known() {
		b := []byte(c.text)
		want := append(bytes.Clone(b), lowestFirst(c.sum)...)
		if s := mustSeal(t, b); !bytes.Equal(s, want) {
			t.Errorf("Seal(%q): %v; want %v", c.text, s, want)
		}
	}
	if s := mustSeal(t, nil); !bytes.Equal(s, make([]byte, behind)) {
		t.Errorf("Seal(nil): %v; want four noughts", s)
	}
	if s := mustSeal(t, []byte("123456789")); !bytes.Equal(s[9:], []byte{0x26, 0x39, 0xf4, 0xcb}) {
		t.Errorf("the nine digits' sum stands as %v", s[9:])
	}
}

// P2.2, Seal: 4,096 bytes may be sealed, 4,097 not.
func TestSealEdges(t *testing.T) {
	b := anyBytes(seeded(5), 10000)
	for _, many := range []int{1, 2, 4095, most} {
		want := append(bytes.Clone(b[:many]), lowestFirst(crc32.ChecksumIEEE(b[:many]))...)
		if s := mustSeal(t, b[:many]); !bytes.Equal(s, want) {
			t.Errorf("Seal of %d bytes: not these, and their sum", many)
		}
	}
	for _, many := range []int{most + 1, most + 2, most + behind, most + behind + 1, 8192, 10000} {
		refuseSeal(t, b[:many], api.ErrMany)
	}
}

// P2.2, Open: a text of fewer than 4 bytes is too short, whatever it holds.
func TestOpenShort(t *testing.T) {
	for many := range behind {
		refuseOpen(t, make([]byte, many), api.ErrShort)
		refuseOpen(t, bytes.Repeat([]byte{255}, many), api.ErrShort)
		// What lies in its capacity is none of its bytes.
		refuseOpen(t, make([]byte, many, 8), api.ErrShort)
	}
	refuseOpen(t, nil, api.ErrShort)
}

// P2.2, Open: 4 bytes are no bytes and their sum, or none.
func TestOpenFour(t *testing.T) {
	if b := mustOpen(t, make([]byte, behind)); len(b) != 0 {
		t.Errorf("four noughts: %v; want no bytes", b)
	}
	for i := range behind {
		for x := 1; x < 256; x++ {
			s := make([]byte, behind)
			s[i] = byte(x)
			refuseOpen(t, s, api.ErrSum)
		}
	}
}

// P2.2, Open: 4,100 bytes may be opened; 4,101 not: that is told ahead of a sum that does not fit, and also where it fits.
func TestOpenMany(t *testing.T) {
	b := anyBytes(seeded(6), 10000)
	for _, many := range []int{most - 1, most} {
		s := append(bytes.Clone(b[:many]), lowestFirst(crc32.ChecksumIEEE(b[:many]))...)
		if got := mustOpen(t, s); !bytes.Equal(got, b[:many]) {
			t.Errorf("Open of %d bytes: another text", len(s))
		}
		s[len(s)-1]++
		refuseOpen(t, s, api.ErrSum)
	}
	for _, many := range []int{most + 1, most + 2, 8192, 9996} {
		s := append(bytes.Clone(b[:many]), lowestFirst(crc32.ChecksumIEEE(b[:many]))...)
		refuseOpen(t, s, api.ErrMany)
		s[len(s)-1]++
		refuseOpen(t, s, api.ErrMany)
	}
	refuseOpen(t, make([]byte, most+behind+1), api.ErrMany)
}

// P2.2, Open: texts whose sum does not fit: its bytes in another order, another start, not turned, or another text's.
func TestOpenWrong(t *testing.T) {
	b := []byte("123456789")
	for _, wrong := range [][]byte{
		{0xcb, 0xf4, 0x39, 0x26},
		{0x39, 0x26, 0xcb, 0xf4},
		lowestFirst(^uint32(0xcbf43926)),
		lowestFirst(0xcbf43927),
		lowestFirst(crc.Sum(b[1:])),
		lowestFirst(crc.Sum(b[:8])),
		lowestFirst(0),
		lowestFirst(math.MaxUint32),
		{0x26, 0x39, 0xf4},
		{0x26, 0x39, 0xf4, 0xcb, 0},
	} {
		refuseOpen(t, append(bytes.Clone(b), wrong...), api.ErrSum)
	}
	s := mustSeal(t, b)
	for cut := range len(s) {
		want := api.ErrSum
		if cut < behind {
			want = api.ErrShort
		}
		refuseOpen(t, s[:cut], want)
	}
	refuseOpen(t, append([]byte{0}, s...), api.ErrSum)
}

// P2.3: what is handed in is as it was, also behind its end.
func TestOnlyRead(t *testing.T) {
	r := seeded(7)
	for _, many := range []int{0, 1, 3, 4, 5, 100, most, most + 1, most + behind, most + behind + 1} {
		room := anyBytes(r, many+50)
		room0 := bytes.Clone(room)
		b := room[:many]
		crc.Sum(b)
		crc.More(77, b)
		crc.Seal(b)
		crc.Open(b)
		if !bytes.Equal(room, room0) {
			t.Errorf("%d bytes: what was handed in is changed", many)
		}
		if many > most {
			continue
		}
		s := append(mustSeal(t, b), room[:50]...)
		s0 := bytes.Clone(s)
		mustOpen(t, s[:many+behind])
		if !bytes.Equal(s, s0) {
			t.Errorf("%d bytes: the sealed text is changed", many)
		}
	}
}

// P2.3: a change of an answer, or of what was handed in, changes nothing else.
func TestNewMemory(t *testing.T) {
	for _, many := range []int{0, 1, 4, 9, most} {
		// Room behind the text, in which a seal that is put down on the spot would stand.
		room := bytes.Repeat([]byte{7}, many+behind)
		text := bytes.Clone(room[:many])
		sealed := append(bytes.Clone(text), lowestFirst(crc32.ChecksumIEEE(text))...)
		one, two := mustSeal(t, room[:many]), mustSeal(t, room[:many])
		spoil(one)
		if !bytes.Equal(two, sealed) || !bytes.Equal(room[:many], text) || !bytes.Equal(mustSeal(t, text), sealed) {
			t.Errorf("%d bytes: sealed texts share memory", many)
		}
		spoil(room)
		if !bytes.Equal(two, sealed) {
			t.Errorf("%d bytes: a sealed text shares memory with the text", many)
		}
		a, b := mustOpen(t, two), mustOpen(t, two)
		spoil(a)
		if !bytes.Equal(b, text) || !bytes.Equal(two, sealed) || !bytes.Equal(mustOpen(t, two), text) {
			t.Errorf("%d bytes: opened texts share memory", many)
		}
		spoil(two)
		if !bytes.Equal(b, text) {
			t.Errorf("%d bytes: an opened text shares memory with the sealed one", many)
		}
	}
}

// spoil changes a list, and what lies in its capacity.
func spoil(l []byte) {
	l = l[:cap(l)]
	for i := range l {
		l[i] += 99
	}
}

// P2.4: there and back: what was sealed is opened.
func TestThereAndBack(t *testing.T) {
	r := seeded(8)
	for many := range 300 {
		for range 5 {
			b := anyBytes(r, many)
			if got := mustOpen(t, mustSeal(t, b)); !bytes.Equal(got, b) {
				t.Fatalf("%v came back as %v", b, got)
			}
		}
	}
	for range 50 {
		b := anyBytes(r, r.IntN(most+1))
		if got := mustOpen(t, mustSeal(t, b)); !bytes.Equal(got, b) {
			t.Fatalf("%d bytes came back as others", len(b))
		}
	}
	for _, b := range [][]byte{nil, make([]byte, most), bytes.Repeat([]byte{255}, most), anyBytes(r, most)} {
		if got := mustOpen(t, mustSeal(t, b)); !bytes.Equal(got, b) {
			t.Errorf("%d bytes came back as others", len(b))
		}
	}
}

// turn turns the bits at and behind a place that a pattern has, its lowest ahead, as far as the text goes.
func turn(s []byte, at int, pattern uint32) []byte {
	out := bytes.Clone(s)
	for i := range 32 {
		if bit := at + i; pattern>>i&1 == 1 && bit < 8*len(s) {
			out[bit/8] ^= 1 << (bit % 8)
		}
	}
	return out
}

// P2.4: one bit is turned, each one of short texts and of their sums.
func TestOneTurned(t *testing.T) {
	r := seeded(9)
	for _, many := range []int{0, 1, 2, 3, 4, 5, 31, 32, 33, 300} {
		s := mustSeal(t, anyBytes(r, many))
		for at := range 8 * len(s) {
			refuseOpen(t, turn(s, at, 1), api.ErrSum)
		}
	}
}

// P2.4: two bits are turned, within 32 in a row: each two of short texts and of their sums.
func TestTwoTurned(t *testing.T) {
	r := seeded(10)
	for _, many := range []int{0, 1, 4, 9, 40} {
		s := mustSeal(t, anyBytes(r, many))
		for at := range 8 * len(s) {
			for apart := 1; apart < 32 && at+apart < 8*len(s); apart++ {
				refuseOpen(t, turn(s, at, 1|1<<apart), api.ErrSum)
			}
		}
	}
}

// P2.4: several bits are turned, within 32 in a row, at each place: in the text, in its sum, and across both. The divisor's own bits are among them: 33 in a row, they would not be told.
func TestRowTurned(t *testing.T) {
	r := seeded(11)
	patterns := []uint32{math.MaxUint32, 0xedb88320, 0xdb710641, 0x04c11db7, 0x80000001, 0xaaaaaaaa, 0x55555555, 0xff00ff00}
	for i := range 32 {
		patterns = append(patterns, math.MaxUint32>>i, math.MaxUint32<<i)
	}
	for _, many := range []int{0, 1, 3, 4, 28, 64} {
		s := mustSeal(t, anyBytes(r, many))
		for at := range 8 * len(s) {
			for _, p := range patterns {
				refuseTurned(t, s, at, p)
			}
			for range 20 {
				refuseTurned(t, s, at, r.Uint32())
			}
		}
	}
}

// P2.4: bits are turned in the longest text, at its ends, and between.
func TestLongTurned(t *testing.T) {
	r := seeded(12)
	s := mustSeal(t, anyBytes(r, most))
	places := []int{0, 1, 7, 8, 8*most - 33, 8*most - 32, 8*most - 31, 8*most - 1, 8 * most, 8*most + 1, 8*most + 31}
	for range 200 {
		places = append(places, r.IntN(8*len(s)))
	}
	for _, at := range places {
		for _, p := range []uint32{1, math.MaxUint32, r.Uint32() | 1} {
			refuseTurned(t, s, at, p)
		}
	}
}

func refuseTurned(t *testing.T, s []byte, at int, pattern uint32) {
	t.Helper()
	if turned := turn(s, at, pattern); !bytes.Equal(turned, s) {
		refuseOpen(t, turned, api.ErrSum)
	}
}

// P1: each call ends, and none panics, whatever comes; what it answers is what the chapter says, and beside an error there is nothing.
func TestWhatever(t *testing.T) {
	r := seeded(13)
	for range 3000 {
		many := r.IntN(20)
		if r.IntN(20) == 0 {
			many = most - 10 + r.IntN(30)
		}
		b := anyBytes(r, many)
		if r.IntN(2) == 0 {
			b = append(b, lowestFirst(crc32.ChecksumIEEE(b))...)
		}
		holdSeal(t, b)
		holdOpen(t, b)
	}
}

func holdSeal(t *testing.T, b []byte) {
	t.Helper()
	if len(b) > most {
		refuseSeal(t, b, api.ErrMany)
		return
	}
	if s := mustSeal(t, b); !bytes.Equal(s, slices.Concat(b, lowestFirst(crc32.ChecksumIEEE(b)))) {
		t.Errorf("Seal of %d bytes: not these, and their sum", len(b))
	}
}

func holdOpen(t *testing.T, s []byte) {
	t.Helper()
	end := len(s) - behind
	switch {
	case end < 0:
		refuseOpen(t, s, api.ErrShort)
	case end > most:
		refuseOpen(t, s, api.ErrMany)
	case !bytes.Equal(s[end:], lowestFirst(crc32.ChecksumIEEE(s[:end]))):
		refuseOpen(t, s, api.ErrSum)
	default:
		if b := mustOpen(t, s); !bytes.Equal(b, s[:end]) {
			t.Errorf("Open of %d bytes: another text", len(s))
		}
	}
}

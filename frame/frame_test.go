package frame_test

import (
	"bytes"
	"encoding/binary"
	"hash/crc32"
	"math/rand/v2"
	"sync"
	"testing"

	"catamaran/api"
	"catamaran/frame"
)

// The chapter's examples.
func TestExamples(t *testing.T) {
	want := append([]byte{0, 0, 16, 0}, make([]byte, 12)...)
	want = binary.LittleEndian.AppendUint32(want, crc32.ChecksumIEEE(want))
	f := api.Frame{Me: 4096}
	if b := mustWrite(t, f); len(b) != 20 || !bytes.Equal(b, want) {
		t.Errorf("the greeting's text is %v; want %v", b, want)
	}
	holdRead(t, want, f, api.OK)
	refuseFrame(t, api.Frame{Me: 4096, Body: []byte("a")})
	refuseFrame(t, api.Frame{Me: 4096, Seq: 1})
	refuseRead(t, text(api.Frame{Me: 4096, Body: []byte("a")}), api.ErrFrame)
	refuseRead(t, text(api.Frame{Me: 4096, Seq: 1}), api.ErrFrame)
}

// Texts byte by byte, their sums written out.
func TestExampleBytes(t *testing.T) {
	for _, c := range []struct {
		f api.Frame
		b []byte
	}{
		{api.Frame{Me: 4096}, []byte{0, 0, 16, 0, 0, 0, 0, 0, 0, 0, 0, 0, 0, 0, 0, 0, 0x39, 0x77, 0x09, 0x8a}},
		{some(), []byte{1, 2, 3, 4, 5, 6, 7, 8, 9, 10, 11, 12, 13, 14, 15, 16, 's', 'o', 'm', 'e', ' ', 'b', 'o', 'd', 'y', 0x09, 0x0d, 0x8b, 0xd9}},
	} {
		if b := mustWrite(t, c.f); !bytes.Equal(b, c.b) {
			t.Errorf("the text of %s is %#v; want %#v", shown(c.f), b, c.b)
		}
		holdRead(t, c.b, c.f, api.OK)
	}
}

// The errors' numbers, which the document names.
func TestNumbers(t *testing.T) {
	for e, want := range map[api.Errno]int{api.OK: 0, api.ErrShort: 10, api.ErrSum: 20, api.ErrFrame: 150} {
		if int(e) != want {
			t.Errorf("the error %d, want %d", e, want)
		}
	}
}

// P15.1, Check and Write: frames that may be, and such as may not.
func TestFrames(t *testing.T) {
	for _, f := range samples() {
		mustWrite(t, f)
		holdFrame(t, f)
	}
	for _, f := range wrong() {
		refuseFrame(t, f)
		holdFrame(t, f)
	}
}

// P15.1, Check and Write: every mix of the numbers at the edges, with a Body and without.
func TestEdges(t *testing.T) {
	for _, me := range edges() {
		for _, you := range edges() {
			for _, seq := range edges() {
				for _, ack := range []uint32{0, 1, 0x80000000, top} {
					for _, many := range []int{0, 1, 64, 65} {
						holdFrame(t, api.Frame{Me: me, You: you, Seq: seq, Ack: ack, Body: make([]byte, many)})
					}
				}
			}
		}
	}
}

// P15.1, Check and Write: each length of the Body; from 1 to 64 with Seq, and none without.
func TestLengths(t *testing.T) {
	for _, many := range lengths() {
		for _, me := range edges() {
			for _, seq := range edges() {
				holdFrame(t, api.Frame{Me: me, Seq: seq, Body: make([]byte, many)})
			}
		}
		b := bytes.Repeat([]byte("x"), many)
		if many < 1 || many > 64 {
			refuseFrame(t, with(some(), b))
		} else if got := mustWrite(t, with(some(), b)); len(got) != 20+many {
			t.Errorf("a Body of %d makes a text of %d", many, len(got))
		}
	}
}

// P15.1, Check and Write: a Body that is empty is none, and what lies in its capacity is none of its bytes.
func TestEmptyBody(t *testing.T) {
	for _, b := range [][]byte{nil, {}, make([]byte, 0, 5), []byte("more")[:0]} {
		for _, me := range edges() {
			holdFrame(t, api.Frame{Me: me, Body: b})
			refuseFrame(t, api.Frame{Me: me, Seq: 1, Body: b})
		}
	}
	for _, b := range [][]byte{make([]byte, 64, 65), make([]byte, 64, 4096), make([]byte, 1, 65)} {
		mustWrite(t, with(some(), b))
		refuseFrame(t, with(some(), b[:65:cap(b)]))
	}
}

// P15.1, Write and Read: each bit of each number has its place, and each one of the Body.
func TestBits(t *testing.T) {
	hold := func(of, f api.Frame, at int, bit byte) {
		t.Helper()
		b := text(of)
		b = b[:len(b)-4]
		b[at] |= bit
		if got := mustWrite(t, f); !bytes.Equal(got, sealed(b)) {
			t.Errorf("the text of %s is %v", shown(f), got)
		}
		holdRead(t, sealed(b), f, api.OK)
	}
	nought := []byte{0}
	for i := range 32 {
		n, place, bit := uint32(1)<<i, 3-i/8, byte(1)<<(i%8)
		hold(api.Frame{}, api.Frame{Me: n}, place, bit)
		hold(api.Frame{Me: 1}, api.Frame{Me: 1, You: n}, 4+place, bit)
		hold(api.Frame{Me: 1, Body: nought}, api.Frame{Me: 1, Seq: n, Body: nought}, 8+place, bit)
		hold(api.Frame{Me: 1}, api.Frame{Me: 1, Ack: n}, 12+place, bit)
	}
	for i := range 8 * 64 {
		b := make([]byte, 64)
		b[i/8] = 1 << (i % 8)
		hold(api.Frame{Me: 1, Seq: 1, Body: make([]byte, 64)}, api.Frame{Me: 1, Seq: 1, Body: b}, 16+i/8, 1<<(i%8))
	}
}

// P15.1, Write and Read: a Body of each byte that there is, of each length.
func TestBodies(t *testing.T) {
	for many := 1; many <= 64; many++ {
		for x := range 256 {
			f := with(some(), bytes.Repeat([]byte{byte(x)}, many))
			holdFrame(t, f)
			holdRead(t, text(f), f, api.OK)
		}
	}
}

// P15.1, Read: the texts of frames that may be, and those of such as may not, sealed as they are.
func TestRead(t *testing.T) {
	for _, f := range samples() {
		holdRead(t, text(f), f, api.OK)
	}
	for _, f := range wrong() {
		refuseRead(t, text(f), api.ErrFrame)
		holdText(t, text(f))
	}
}

// P15.1, Read: every mix of numbers at the edges, sealed, with a Body and without.
func TestReadEdges(t *testing.T) {
	for _, me := range []uint32{0, 1, 256, 1 << 16, 1 << 24, top} {
		for _, seq := range []uint32{0, 1, 256, 1 << 16, 1 << 24, top} {
			for _, other := range []uint32{0, 1, top} {
				for many := range 66 {
					b := text(api.Frame{Me: me, You: other, Seq: seq, Ack: other, Body: make([]byte, many)})
					holdText(t, b)
					if me == 0 || many > 64 || (seq == 0) != (many == 0) {
						refuseRead(t, b, api.ErrFrame)
					}
				}
			}
		}
	}
}

// P15.1, Read: fewer than 20 bytes are too short, whatever they are: sealed ones too, and such as more bytes lie behind.
func TestReadShort(t *testing.T) {
	whole := text(greeting())
	for many := range 20 {
		refuseRead(t, make([]byte, many), api.ErrShort)
		refuseRead(t, make([]byte, many, 100), api.ErrShort)
		refuseRead(t, bytes.Repeat([]byte{255}, many), api.ErrShort)
		refuseRead(t, whole[:many], api.ErrShort)
		refuseRead(t, text(some())[:many], api.ErrShort)
		if many >= 4 {
			refuseRead(t, sealed(whole[:many-4]), api.ErrShort)
			refuseRead(t, sealed(make([]byte, many-4)), api.ErrShort)
		}
	}
	refuseRead(t, nil, api.ErrShort)
	holdRead(t, whole, greeting(), api.OK)
	refuseRead(t, make([]byte, 20), api.ErrSum)
	refuseRead(t, sealed(make([]byte, 16)), api.ErrFrame)
}

// P15.1, Read: more than 84 bytes are no frame: that is told ahead of a sum that does not fit, and also where it fits.
func TestReadMany(t *testing.T) {
	r := seeded(1)
	for _, many := range []int{85, 86, 87, 88, 89, 100, 128, 256, 276, 4096, 4099, 4100, 4101, 4104, 5000, 65536, 65556, 1 << 20} {
		refuseRead(t, make([]byte, many), api.ErrFrame)
		refuseRead(t, anyBytes(r, many), api.ErrFrame)
		refuseRead(t, sealed(anyBytes(r, many-4)), api.ErrFrame)
		refuseRead(t, text(with(some(), anyBytes(r, many-20))), api.ErrFrame)
		refuseRead(t, append(text(some()), make([]byte, many-29)...), api.ErrFrame)
	}
	longest := with(some(), anyBytes(r, 64))
	b := text(longest)
	holdRead(t, b, longest, api.OK)
	refuseRead(t, append(bytes.Clone(b), 0), api.ErrFrame)
	b[83]++
	refuseRead(t, b, api.ErrSum)
	refuseRead(t, make([]byte, 84), api.ErrSum)
	refuseRead(t, anyBytes(r, 84), api.ErrSum)
}

// P15.1, Read: texts whose sum does not fit, of each length; that is told ahead of a frame that may not be.
func TestReadSum(t *testing.T) {
	r := seeded(2)
	for many := range 65 {
		for _, f := range []api.Frame{{Me: 1, Seq: 1}, {}, {Me: 1}, {Seq: 1}} {
			f.Body = anyBytes(r, many)
			whole := text(f)
			end := len(whole) - 4
			sum := binary.LittleEndian.Uint32(whole[end:])
			for _, other := range []uint32{0, top, ^sum, sum + 1, sum - 1, sum << 8, sum >> 8, crc32.ChecksumIEEE(whole[16:end]), crc32.ChecksumIEEE(whole[:16]) + 1} {
				if other != sum {
					refuseRead(t, binary.LittleEndian.AppendUint32(bytes.Clone(whole[:end]), other), api.ErrSum)
				}
			}
			refuseRead(t, binary.BigEndian.AppendUint32(bytes.Clone(whole[:end]), sum), api.ErrSum)
		}
	}
}

// P15.1, Read: texts that lack a byte, or have one more, at either end.
func TestReadCut(t *testing.T) {
	for _, f := range samples() {
		b := text(f)
		for _, cut := range [][]byte{b[1:], b[:len(b)-1], append([]byte{0}, b...), append(bytes.Clone(b), 0), append(bytes.Clone(b), b...)} {
			want := api.ErrSum
			if len(cut) < 20 {
				want = api.ErrShort
			} else if len(cut) > 84 {
				want = api.ErrFrame
			}
			refuseRead(t, cut, want)
		}
	}
}

// P15.1, Same: of any frames, which may be or not; no Body and an empty one are the same.
func TestSame(t *testing.T) {
	for _, f := range append(samples(), wrong()...) {
		holdSame(t, f, f, true)
		holdSame(t, f, with(f, roomy(f.Body)), true)
		for _, other := range turned(f) {
			holdSame(t, f, other, false)
		}
	}
	for _, a := range [][]byte{nil, {}, make([]byte, 0, 9)} {
		for _, b := range [][]byte{nil, {}, []byte("more")[:0]} {
			holdSame(t, api.Frame{Me: 3, Body: a}, api.Frame{Me: 3, Body: b}, true)
			holdSame(t, api.Frame{Body: a}, api.Frame{Body: b}, true)
		}
	}
	holdSame(t, api.Frame{Me: 1, You: 2}, api.Frame{Me: 2, You: 1}, false)
	holdSame(t, api.Frame{Seq: 1, Ack: 2}, api.Frame{Seq: 2, Ack: 1}, false)
	holdSame(t, api.Frame{Me: 1}, api.Frame{You: 1}, false)
	holdSame(t, api.Frame{Me: 1}, api.Frame{Seq: 1}, false)
	holdSame(t, api.Frame{Me: 1}, api.Frame{Ack: 1}, false)
}

// P15.1, Same: each two of some frames.
func TestSameOfTwo(t *testing.T) {
	l := append(samples(), wrong()...)
	for _, a := range l {
		for _, b := range l {
			if frame.Same(a, b) != alike(a, b) {
				t.Fatalf("Same of %s and %s: %v", shown(a), shown(b), frame.Same(a, b))
			}
		}
	}
}

// P15.1, P15.2, Twin: of any frames, which may be or not, in new memory.
func TestTwin(t *testing.T) {
	for _, f := range append(samples(), wrong()...) {
		handed := with(f, roomy(f.Body))
		one, two := frame.Twin(handed), frame.Twin(handed)
		if !alike(one, f) || !alike(two, f) {
			t.Fatalf("the twin of %s is %s", shown(f), shown(one))
		}
		spoil(one.Body)
		if !alike(two, f) || !alike(frame.Twin(handed), f) || !isAsHanded(handed.Body, f.Body) {
			t.Fatalf("the twin of %s shares memory", shown(f))
		}
		spoil(handed.Body)
		if !alike(two, f) {
			t.Fatalf("the twin of %s shares memory with what was handed in", shown(f))
		}
	}
	for _, b := range [][]byte{nil, {}, make([]byte, 0, 9)} {
		if twin := frame.Twin(api.Frame{Me: 1, You: 2, Seq: 3, Ack: 4, Body: b}); !alike(twin, api.Frame{Me: 1, You: 2, Seq: 3, Ack: 4}) {
			t.Errorf("a twin without a Body: %s", shown(twin))
		}
	}
}

// P15.2: what is handed in is as it was, also behind its end, and also where an error is told.
func TestOnlyRead(t *testing.T) {
	for _, want := range append(samples(), wrong()...) {
		f := with(want, roomy(want.Body))
		frame.Check(f)
		frame.Write(f)
		frame.Same(f, f)
		frame.Same(f, want)
		frame.Same(want, f)
		frame.Twin(f)
		if !isAsHanded(f.Body, want.Body) || !alike(f, want) {
			t.Errorf("%s was handed in, and is %s", shown(want), shown(f))
		}
		whole := text(want)
		for _, b := range [][]byte{whole, turn(whole, 130, 9), whole[:19], append(bytes.Clone(whole), 1)} {
			handed := roomy(b)
			frame.Read(handed)
			if !isAsHanded(handed, b) {
				t.Errorf("the text %v was handed in, and is %v", b, handed)
			}
		}
	}
}

// P15.2: a change of a text changes no other one, nor the frame; a change of that changes no text.
func TestWriteNewMemory(t *testing.T) {
	for _, f := range samples() {
		// Room behind the Body, in which a text that is made on the spot would stand.
		handed := with(f, append(bytes.Clone(f.Body), make([]byte, 200)...)[:len(f.Body)])
		want := text(f)
		one, two := mustWrite(t, handed), mustWrite(t, handed)
		spoil(one)
		if !bytes.Equal(two, want) || !alike(handed, f) || !bytes.Equal(mustWrite(t, handed), want) {
			t.Fatalf("the text of %s shares memory", shown(f))
		}
		spoil(handed.Body)
		if !bytes.Equal(two, want) {
			t.Fatalf("the text of %s shares memory with the frame", shown(f))
		}
	}
}

// P15.2: a change of a frame changes no other one, nor the text; a change of that changes no frame.
func TestReadNewMemory(t *testing.T) {
	for _, want := range samples() {
		whole := text(want)
		handed := roomy(whole)
		one, two := mustRead(t, handed), mustRead(t, handed)
		spoil(one.Body)
		if !alike(two, want) || !isAsHanded(handed, whole) || !alike(mustRead(t, handed), want) {
			t.Fatalf("%s, read, shares memory", shown(want))
		}
		spoil(handed)
		if !alike(two, want) {
			t.Fatalf("%s, read, shares memory with its text", shown(want))
		}
	}
}

// anyNumber is often one at an edge.
func anyNumber(r *rand.Rand) uint32 {
	if l := edges(); r.IntN(2) == 0 {
		return l[r.IntN(len(l))]
	}
	return r.Uint32()
}

// anyFrame is often one that may be, and else one that nearly may be.
func anyFrame(r *rand.Rand) api.Frame {
	f := api.Frame{Me: anyNumber(r), You: anyNumber(r), Seq: anyNumber(r), Ack: anyNumber(r)}
	switch r.IntN(6) {
	case 0:
		f.Body = anyBytes(r, []int{0, 1, 2, 63, 64, 65, 66, 4077, 5000}[r.IntN(9)])
	default:
		if f.Seq > 0 {
			f.Body = anyBytes(r, 1+r.IntN(64))
		}
	}
	return f
}

// P15.3: there and back: what is written is read, and what is read is written so.
func TestThereAndBack(t *testing.T) {
	r := seeded(3)
	l := samples()
	for range 20000 {
		if f := anyFrame(r); may(f) {
			l = append(l, f)
		}
	}
	for _, f := range l {
		b := mustWrite(t, f)
		got := mustRead(t, b)
		if !alike(got, f) || !bytes.Equal(mustWrite(t, got), b) {
			t.Fatalf("%s came back as %s", shown(f), shown(got))
		}
	}
}

// P15.3: two frames have one text just if they are the same.
func TestOneText(t *testing.T) {
	of := map[string]api.Frame{}
	for _, f := range samples() {
		for _, other := range append(turned(f), f) {
			b, e := frame.Write(other)
			if e != api.OK {
				continue
			}
			if had, is := of[string(b)]; is && !alike(had, other) {
				t.Fatalf("%s and %s have one text", shown(had), shown(other))
			}
			of[string(b)] = other
		}
	}
}

// P15.3: whatever sealed text is read as a frame is written so.
func TestReadIsWritten(t *testing.T) {
	r := seeded(4)
	many := 0
	for range 20000 {
		b := anyBytes(r, 16+r.IntN(66))
		switch r.IntN(3) {
		case 0:
			b = b[:16]
			clear(b[8:12])
		case 1:
			clear(b[r.IntN(16):16])
		}
		b = sealed(b)
		holdText(t, b)
		if f, e := frame.Read(b); e == api.OK {
			many++
			if !bytes.Equal(mustWrite(t, f), b) {
				t.Fatalf("%v is read, but written otherwise", b)
			}
		}
	}
	if many < 5000 {
		t.Errorf("only %d were read", many)
	}
}

// refuseTurned holds that a text, some of whose bits are turned, is none.
func refuseTurned(t *testing.T, b []byte, at int, pattern uint32) {
	t.Helper()
	if other := turn(b, at, pattern); !bytes.Equal(other, b) {
		refuseRead(t, other, api.ErrSum)
	}
}

// few are some of the samples: greetings, and Bodies of few bytes and of many.
func few() []api.Frame {
	r := seeded(5)
	return []api.Frame{
		greeting(), {Me: 1}, {Me: top, You: top, Ack: top}, some(), {Me: 1, Seq: 1, Body: []byte{0}}, {Me: top, Seq: top, Body: []byte{255}},
		with(some(), anyBytes(r, 2)), with(some(), anyBytes(r, 31)), with(some(), anyBytes(r, 64)), with(some(), make([]byte, 64)),
	}
}

// P15.3: one bit is turned, or two within 32 in a row: each of them.
func TestTwoTurned(t *testing.T) {
	for _, f := range few() {
		b := mustWrite(t, f)
		for at := range 8 * len(b) {
			refuseTurned(t, b, at, 1)
			for apart := 1; apart < 32; apart++ {
				refuseTurned(t, b, at, 1|1<<apart)
			}
		}
	}
}

// P15.3: several bits are turned, within 32 in a row, at each place. The divisor's own bits are among them: 33 in a row, they would not be told.
func TestRowTurned(t *testing.T) {
	r := seeded(6)
	patterns := []uint32{top, 0xedb88320, 0xdb710641, 0x04c11db7, 0x80000001, 0xaaaaaaaa, 0x55555555, 0xff00ff00}
	for i := range 32 {
		patterns = append(patterns, uint32(top)>>i, uint32(top)<<i)
	}
	for _, f := range few() {
		b := mustWrite(t, f)
		for at := range 8 * len(b) {
			for _, p := range patterns {
				refuseTurned(t, b, at, p)
			}
			for range 20 {
				refuseTurned(t, b, at, r.Uint32())
			}
		}
	}
}

// P1, P15.1: of several errors the one named first is told: too short, too long, no sum, no frame.
func TestFirstError(t *testing.T) {
	for _, me := range []uint32{0, 7} {
		for _, seq := range []uint32{0, 7} {
			for many := range 90 {
				b := make([]byte, 16)
				binary.BigEndian.PutUint32(b, me)
				binary.BigEndian.PutUint32(b[8:], seq)
				b = append(b, make([]byte, 90)...)[:many]
				for _, whole := range [][]byte{sealed(b), turn(sealed(b), 8*many, 1)} {
					holdText(t, whole)
				}
			}
		}
	}
	refuseRead(t, turn(text(api.Frame{}), 3, 1), api.ErrSum)
	refuseRead(t, turn(text(api.Frame{Me: 1, Seq: 1}), 3, 1), api.ErrSum)
	refuseRead(t, turn(text(api.Frame{Body: make([]byte, 65)}), 3, 1), api.ErrFrame)
	refuseRead(t, turn(text(api.Frame{})[:19], 3, 1), api.ErrShort)
}

// P1: each call ends, and none panics, whatever comes; the answers are those of the chapter's words.
func TestWhatever(t *testing.T) {
	r := seeded(7)
	for range 20000 {
		f := anyFrame(r)
		holdFrame(t, f)
		whole := text(f)
		holdText(t, whole)
		holdText(t, anyBytes(r, r.IntN(100)))
		switch r.IntN(3) {
		case 0:
			holdText(t, whole[:r.IntN(len(whole)+1)])
		case 1:
			holdText(t, turn(whole, r.IntN(8*len(whole)), r.Uint32()))
		case 2:
			whole[r.IntN(len(whole))] = byte(r.Uint32())
			holdText(t, whole)
		}
		if other := anyFrame(r); frame.Same(f, other) != alike(f, other) {
			t.Errorf("Same of %s and %s", shown(f), shown(other))
		}
		if twin := frame.Twin(f); !alike(twin, f) || !frame.Same(twin, f) {
			t.Errorf("the twin of %s is %s", shown(f), shown(twin))
		}
		if t.Failed() {
			t.FailNow()
		}
	}
}

// P1: very long Bodies and texts are refused, or held against each other, as others are.
func TestHuge(t *testing.T) {
	huge := make([]byte, 1<<24)
	refuseRead(t, huge, api.ErrFrame)
	for _, f := range []api.Frame{{Me: 1, Seq: 1}, {Me: 1}, {Seq: 1}, {}} {
		f.Body = huge
		refuseFrame(t, f)
		twin := frame.Twin(f)
		holdSame(t, f, twin, true)
		twin.Body[1<<24-1]++
		holdSame(t, f, twin, false)
	}
}

// P1: nothing is kept from call to call, whoever calls between.
func TestNothingIsKept(t *testing.T) {
	var calls sync.WaitGroup
	for i, f := range append(few(), few()...) {
		calls.Add(1)
		go func() {
			defer calls.Done()
			f := frame.Twin(f)
			for k := range 200 {
				f.You = uint32(100*i + k)
				holdFrame(t, f)
				holdRead(t, text(f), f, api.OK)
				holdSame(t, f, frame.Twin(f), true)
				refuseFrame(t, api.Frame{Me: f.Me, Seq: 1})
				refuseRead(t, turn(text(f), k%160, 5), api.ErrSum)
			}
		}()
	}
	calls.Wait()
}

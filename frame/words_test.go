package frame_test

import (
	"bytes"
	"encoding/binary"
	"fmt"
	"hash/crc32"
	"math"
	"math/rand/v2"
	"testing"

	"catamaran/api"
	"catamaran/frame"
)

const (
	least   = 20 // bytes of a greeting's text
	longest = 84 // bytes of the text of the longest Body
	body    = 64 // bytes of that
	top     = math.MaxUint32
)

func seeded(seed uint64) *rand.Rand { return rand.New(rand.NewPCG(seed, 15)) }

func anyBytes(r *rand.Rand, many int) []byte {
	b := make([]byte, many)
	for i := range b {
		b[i] = byte(r.Uint32())
	}
	return b
}

// edges are numbers that stand at an edge, of 4 bytes, or of some of them.
func edges() []uint32 {
	return []uint32{0, 1, 2, 127, 128, 255, 256, 4096, 1 << 16, 1<<16 - 1, 1 << 24, 0x01020304, 0xff00ff00, 1<<31 - 1, 1 << 31, top - 1, top}
}

// lengths are those of a Body, all that may be, and some that never may.
func lengths() []int {
	var l []int
	for many := range body + 10 {
		l = append(l, many)
	}
	return append(l, 84, 85, 127, 128, 129, 255, 256, 257, 320, 4076, 4077, 4080, 4081, 4096, 4097, 1<<16-1, 1<<16, 1<<16+1, 1<<16+64, 1<<20)
}

// some is a frame that may be, no two bytes of whose text are the same ahead of the sum.
func some() api.Frame {
	return api.Frame{Me: 0x01020304, You: 0x05060708, Seq: 0x090a0b0c, Ack: 0x0d0e0f10, Body: []byte("some body")}
}

func greeting() api.Frame { return api.Frame{Me: 4096} }

// with is f with another Body.
func with(f api.Frame, b []byte) api.Frame {
	f.Body = b
	return f
}

// samples are frames that may be: greetings and others, at the edges of each number and of the Body.
func samples() []api.Frame {
	l := []api.Frame{some(), greeting(), {Me: top, You: top, Ack: top}, {Me: 4096, You: 8192, Seq: 1, Ack: 2, Body: []byte("x")}}
	for _, n := range edges() {
		l = append(l, api.Frame{Me: max(n, 1)}, api.Frame{Me: 1, You: n}, api.Frame{Me: 1, Ack: n}, api.Frame{Me: 1, Seq: max(n, 1), Body: []byte{0}})
	}
	for many := 1; many <= body; many++ {
		b := make([]byte, many)
		for i := range b {
			b[i] = byte(200 + i)
		}
		l = append(l, with(some(), b), api.Frame{Me: 1, Seq: 1, Body: make([]byte, many)},
			api.Frame{Me: top, You: top, Seq: top, Ack: top, Body: bytes.Repeat([]byte{255}, many)})
	}
	return l
}

// wrong are frames that may not be.
func wrong() []api.Frame {
	l := []api.Frame{{}, {You: 1, Ack: 1}, {You: top, Seq: top, Ack: top, Body: []byte("x")}, {Seq: 1}, {Me: 1, Seq: top}}
	for _, many := range lengths() {
		b := bytes.Repeat([]byte{7}, many)
		l = append(l, api.Frame{Body: b}, api.Frame{Seq: 3, Body: b})
		if many > 0 {
			l = append(l, api.Frame{Me: 1, Body: b}, api.Frame{Me: top, You: top, Ack: top, Body: b})
		}
		if many == 0 || many > body {
			l = append(l, with(some(), b), api.Frame{Me: 1, Seq: 1, Body: b}, api.Frame{Me: top, Seq: top, Body: b})
		}
	}
	return l
}

// alike tells whether all is the same.
func alike(a, b api.Frame) bool {
	return [4]uint32{a.Me, a.You, a.Seq, a.Ack} == [4]uint32{b.Me, b.You, b.Seq, b.Ack} && string(a.Body) == string(b.Body)
}

func shown(f api.Frame) string {
	return fmt.Sprintf("Me %d, You %d, Seq %d, Ack %d, %d bytes %v", f.Me, f.You, f.Seq, f.Ack, len(f.Body), f.Body[:min(len(f.Body), body)])
}

// may tells whether a frame may be, by the chapter's words.
func may(f api.Frame) bool {
	switch {
	case f.Me == 0:
		return false
	case f.Seq > 0:
		return len(f.Body) > 0 && len(f.Body) < 65
	}
	return len(f.Body) == 0
}

// sealed is a text with its sum behind it, by the words of chapter 2.
func sealed(b []byte) []byte {
	return binary.LittleEndian.AppendUint32(bytes.Clone(b), crc32.ChecksumIEEE(b))
}

// open tells what was sealed, and whether t is a sealed text.
func open(t []byte) ([]byte, bool) {
	b := t[:len(t)-4]
	return b, bytes.Equal(sealed(b), t)
}

// text is that of a frame, by the chapter's words, whether it may be or not.
func text(f api.Frame) []byte {
	var b []byte
	for _, n := range []uint32{f.Me, f.You, f.Seq, f.Ack} {
		b = append(b, byte(n/16777216), byte(n/65536), byte(n/256), byte(n))
	}
	return sealed(append(b, f.Body...))
}

// toldRead is what Read has to answer, by the chapter's words.
func toldRead(t []byte) (api.Frame, api.Errno) {
	if len(t) < 20 {
		return api.Frame{}, api.ErrShort
	}
	if len(t) > 84 {
		return api.Frame{}, api.ErrFrame
	}
	b, is := open(t)
	if !is {
		return api.Frame{}, api.ErrSum
	}
	f := api.Frame{
		Me:   binary.BigEndian.Uint32(b),
		You:  binary.BigEndian.Uint32(b[4:]),
		Seq:  binary.BigEndian.Uint32(b[8:]),
		Ack:  binary.BigEndian.Uint32(b[12:]),
		Body: b[16:],
	}
	if !may(f) {
		return api.Frame{}, api.ErrFrame
	}
	return f, api.OK
}

// holdFrame holds what Check and Write tell of a frame.
func holdFrame(t *testing.T, f api.Frame) {
	t.Helper()
	wantText, wantE := text(f), api.OK
	if !may(f) {
		wantText, wantE = nil, api.ErrFrame
	}
	if e := frame.Check(f); e != wantE {
		t.Errorf("Check(%s): error %d; want %d", shown(f), e, wantE)
	}
	if b, e := frame.Write(f); !bytes.Equal(b, wantText) || e != wantE {
		t.Errorf("Write(%s): %v, error %d; want %v, error %d", shown(f), b, e, wantText, wantE)
	}
}

// refuseFrame holds that a frame may not be.
func refuseFrame(t *testing.T, f api.Frame) {
	t.Helper()
	if e := frame.Check(f); e != api.ErrFrame {
		t.Errorf("Check(%s): error %d", shown(f), e)
	}
	if b, e := frame.Write(f); len(b) != 0 || e != api.ErrFrame {
		t.Errorf("Write(%s): %v, error %d", shown(f), b, e)
	}
}

// holdRead holds what is read of a text.
func holdRead(t *testing.T, b []byte, want api.Frame, wantE api.Errno) {
	t.Helper()
	if f, e := frame.Read(b); !alike(f, want) || e != wantE {
		t.Errorf("Read of %d bytes, %v: %s, error %d; want %s, error %d", len(b), b[:min(len(b), longest+1)], shown(f), e, shown(want), wantE)
	}
}

// refuseRead holds that a text is none, and that nothing stands beside the error.
func refuseRead(t *testing.T, b []byte, want api.Errno) {
	t.Helper()
	holdRead(t, b, api.Frame{}, want)
}

// holdText holds that a text is read as the chapter's words say.
func holdText(t *testing.T, b []byte) {
	t.Helper()
	want, wantE := toldRead(b)
	holdRead(t, b, want, wantE)
}

func mustWrite(t *testing.T, f api.Frame) []byte {
	t.Helper()
	b, e := frame.Write(f)
	if e != api.OK {
		t.Fatalf("Write(%s): error %d", shown(f), e)
	}
	return b
}

func mustRead(t *testing.T, b []byte) api.Frame {
	t.Helper()
	f, e := frame.Read(b)
	if e != api.OK {
		t.Fatalf("Read(%v): error %d", b, e)
	}
	return f
}

func holdSame(t *testing.T, a, b api.Frame, want bool) {
	t.Helper()
	if frame.Same(a, b) != want || frame.Same(b, a) != want {
		t.Errorf("Same of %s and %s: %v, %v; want %v", shown(a), shown(b), frame.Same(a, b), frame.Same(b, a), want)
	}
}

// turned are frames that differ from f in one thing each.
func turned(f api.Frame) []api.Frame {
	var l []api.Frame
	for i := range 32 {
		for _, of := range []func(*api.Frame) *uint32{
			func(f *api.Frame) *uint32 { return &f.Me }, func(f *api.Frame) *uint32 { return &f.You },
			func(f *api.Frame) *uint32 { return &f.Seq }, func(f *api.Frame) *uint32 { return &f.Ack },
		} {
			other := f
			*of(&other) ^= 1 << i
			l = append(l, other)
		}
	}
	l = append(l, with(f, append(bytes.Clone(f.Body), 0)), with(f, append([]byte{0}, f.Body...)), with(f, append(bytes.Clone(f.Body), make([]byte, 256)...)))
	many := len(f.Body)
	for _, at := range []int{0, 1, many / 2, many - 1} {
		if at >= 0 && at < many {
			for bit := range 8 {
				l = append(l, with(f, turn(f.Body, 8*at+bit, 1)))
			}
		}
	}
	if many > 0 {
		l = append(l, with(f, nil), with(f, f.Body[:many-1]))
	}
	return l
}

// turn turns the bits at and behind a place that a pattern has, its lowest ahead, as far as the text goes.
func turn(b []byte, at int, pattern uint32) []byte {
	out := bytes.Clone(b)
	for i := range 32 {
		if bit := at + i; pattern>>i&1 == 1 && bit < 8*len(b) {
			out[bit/8] ^= 1 << (bit % 8)
		}
	}
	return out
}

const behind = "----"

// roomy is b with more behind its end.
func roomy(b []byte) []byte { return append(bytes.Clone(b), behind...)[:len(b)] }

// isAsHanded tells whether b is as roomy made it of another one.
func isAsHanded(b, want []byte) bool {
	return bytes.Equal(b, want) && string(b[len(b):len(b)+len(behind)]) == behind
}

// spoil changes a list, and what lies in its capacity.
func spoil(b []byte) {
	b = b[:cap(b)]
	for i := range b {
		b[i] += 99
	}
}

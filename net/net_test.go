package net_test

import (
	"bytes"
	"fmt"
	"slices"
	"strings"
	"sync"
	"testing"

	"catamaran/api"
	"catamaran/net"
)

// The chapter's examples.
func TestExamples(t *testing.T) {
	n := mustSend(t, nil, "a")
	n = mustSend(t, n, "b")
	holdNet(t, "a, b sent", n, net.Check(n), []string{"a", "b"}, api.OK)
	n = mustTwice(t, n, 0)
	holdNet(t, "Twice of 0", n, net.Check(n), []string{"a", "b", "a"}, api.OK)
	n, b := mustTake(t, n, 1)
	holdNet(t, "Take of 1", n, net.Check(n), []string{"a", "a"}, api.OK)
	if b != "b" {
		t.Errorf("taken is %q", b)
	}
}

// The errors' numbers, which the document names, and the limit.
func TestNumbers(t *testing.T) {
	for e, want := range map[api.Errno]int{api.OK: 0, api.ErrArg: 2, api.ErrBad: 8} {
		if int(e) != want {
			t.Errorf("the error %d, want %d", e, want)
		}
	}
	if api.MaxFlight != most {
		t.Errorf("the limit is %d", api.MaxFlight)
	}
}

// P16.1, Check: nets that may be, of none up to 64 texts, whatever these are, and such as may not.
func TestCheck(t *testing.T) {
	for many := range 2 * most {
		for _, l := range kinds(many) {
			holdCheck(t, l)
		}
	}
	for _, many := range noCounts() {
		for _, l := range kinds(many) {
			holdCheck(t, l)
		}
	}
	for _, n := range [][][]byte{nil, {}, make([][]byte, 0, 100), make([][]byte, 64, 65), {nil}, {{}}, {make([]byte, 1<<20)}} {
		if e := net.Check(n); e != api.OK {
			t.Errorf("Check of %d texts: error %d", len(n), e)
		}
	}
	if n := make([][]byte, 64, 65); net.Check(n[:65]) != api.ErrBad {
		t.Error("one text too many")
	}
}

// P16.2, Send: each number of texts, and each kind of them; a text is nil, empty, short or long.
func TestSend(t *testing.T) {
	for many := range most + 8 {
		for _, l := range kinds(many) {
			for _, text := range []string{"", "x", "same", "text 0", strings.Repeat("y", 84), strings.Repeat("z", 70000)} {
				holdSend(t, l, text)
			}
		}
	}
	for _, b := range [][]byte{nil, {}, make([]byte, 0, 9)} {
		for _, n := range [][][]byte{nil, {}, make([][]byte, 0, 9)} {
			out, e := net.Send(n, b)
			holdNet(t, "Send of an empty text", out, e, []string{""}, api.OK)
		}
	}
}

// P16.2, Take: each place of each number of texts, and each kind of them; the others stay in their order.
func TestTake(t *testing.T) {
	for many := range most + 1 {
		for _, l := range kinds(many) {
			for i := range many {
				holdTake(t, l, i)
			}
		}
	}
}

// P16.2, Twice: each place of each number of texts, and each kind of them.
func TestTwice(t *testing.T) {
	for many := range most + 1 {
		for _, l := range kinds(many) {
			for i := range many {
				holdTwice(t, l, i)
			}
		}
	}
}

// P16.2, Take and Twice: places that there are not, ErrArg; also of a net that is full.
func TestNoPlaces(t *testing.T) {
	for many := range most + 1 {
		for _, i := range noPlaces(many) {
			if !noPlace(many, i) {
				continue
			}
			for _, l := range kinds(many) {
				refuse(t, l, i, api.ErrArg)
				holdTake(t, l, i)
				holdTwice(t, l, i)
			}
		}
	}
	for _, i := range []int{-1, 0, 1, 63, 64} {
		if out, b, e := net.Take(nil, i); len(out) != 0 || len(b) != 0 || e != api.ErrArg {
			t.Errorf("Take of %d from nil: %q, %q, error %d", i, out, b, e)
		}
		if out, e := net.Twice(nil, i); len(out) != 0 || e != api.ErrArg {
			t.Errorf("Twice of %d of nil: %q, error %d", i, out, e)
		}
	}
	// A text that lies behind the net's end is none of it.
	n := laid(named(4))[:3]
	if _, _, e := net.Take(n, 3); e != api.ErrArg {
		t.Errorf("Take of a text behind the end: error %d", e)
	}
	if _, e := net.Twice(n, 3); e != api.ErrArg {
		t.Errorf("Twice of a text behind the end: error %d", e)
	}
}

// P16.1, P16.2: nets that may not be are refused, whatever else is handed in.
func TestWrongNets(t *testing.T) {
	for _, many := range noCounts() {
		l := named(many)
		for _, i := range []int{-1, 0, 1, 63, 64, 65, many - 1, many} {
			refuse(t, l, i, api.ErrBad)
		}
		for _, text := range []string{"", "x", "text 0"} {
			holdSend(t, l, text)
		}
	}
	for _, l := range kinds(most + 1) {
		for _, i := range append(noPlaces(most+1), 0, 1, 32, most) {
			refuse(t, l, i, api.ErrBad)
		}
	}
}

// P1, P16.2: of several errors the one named first is told: a net that may not be, and then a place that there is not.
func TestFirstError(t *testing.T) {
	for many := range 2*most + 2 {
		l := named(many)
		for _, i := range append(noPlaces(many), 0, 1, many/2, many-1) {
			switch {
			case many > most:
				refuse(t, l, i, api.ErrBad)
			case noPlace(many, i):
				refuse(t, l, i, api.ErrArg)
			}
		}
	}
}

// P16.2: a full net stays as it is by Send and Twice; Take makes room for one.
func TestFull(t *testing.T) {
	for _, l := range kinds(most) {
		n := laid(l)
		for i := range most {
			holdNet(t, "Twice of a full net", mustTwice(t, n, i), api.OK, l, api.OK)
			out, b := mustTake(t, n, i)
			out = mustSend(t, out, "next")
			if want := slices.Concat(l[:i], l[i+1:], []string{"next"}); !slices.Equal(told(out), want) || b != l[i] {
				t.Fatalf("%d taken of a full net, and one sent: %q and %s", i, b, shown(told(out)))
			}
			holdNet(t, "Send to a full net", mustSend(t, out, "lost"), api.OK, told(out), api.OK)
		}
		for _, text := range []string{"", "x", l[0], l[most-1]} {
			holdNet(t, "Send to a full net", mustSend(t, n, text), api.OK, l, api.OK)
		}
	}
	n := laid(named(most - 1))
	holdNet(t, "the last place", mustSend(t, n, "x"), api.OK, append(named(most-1), "x"), api.OK)
	holdNet(t, "the last place", mustTwice(t, n, 62), api.OK, append(named(most-1), "text 62"), api.OK)
}

// P16.1, Same: of any nets, which may be or not; empty texts, and empty nets, are the same as nil ones.
func TestSame(t *testing.T) {
	for _, many := range append(counts(), 65, 66, 128, 1000) {
		for _, l := range kinds(many) {
			holdSame(t, laid(l), laid(l), true)
			holdSame(t, laid(l), roomyNet(l), true)
			for _, other := range turned(l) {
				holdSame(t, laid(l), laid(other), slices.Equal(l, other))
			}
		}
	}
	for _, a := range [][][]byte{nil, {}, make([][]byte, 0, 5), laid(named(3))[:0]} {
		holdSame(t, a, nil, true)
		holdSame(t, a, [][]byte{}, true)
		holdSame(t, a, [][]byte{nil}, false)
		holdSame(t, a, [][]byte{{}}, false)
	}
	holdSame(t, [][]byte{nil}, [][]byte{{}}, true)
	holdSame(t, [][]byte{nil, {}}, [][]byte{{}, nil}, true)
	holdSame(t, [][]byte{nil, nil}, [][]byte{nil}, false)
	holdSame(t, laid([]string{"a", "b"}), laid([]string{"b", "a"}), false)
	holdSame(t, laid([]string{"a", "b"}), laid([]string{"ab", ""}), false)
	holdSame(t, laid([]string{"a", "b"}), laid([]string{"ab"}), false)
	holdSame(t, laid([]string{"", "x"}), laid([]string{"x", ""}), false)
}

// P16.1, Same: each bit of each byte of a text.
func TestSameBits(t *testing.T) {
	for i := range 8 * 3 * 20 {
		n := laid(named(3))
		other := laid(named(3))
		text := other[i/160]
		at := i / 8 % 20
		if at >= len(text) {
			continue
		}
		text[at] ^= 1 << (i % 8)
		holdSame(t, n, other, false)
	}
}

// P16.1, P16.3, Twin: of any nets, which may be or not, in new memory.
func TestTwin(t *testing.T) {
	for _, many := range append(counts(), 65, 66, 128, 1000) {
		for _, l := range kinds(many) {
			n := roomyNet(l)
			one, two := net.Twin(n), net.Twin(n)
			if !slices.Equal(told(one), l) || !slices.Equal(told(two), l) {
				t.Fatalf("the twin of %s is %s", shown(l), shown(told(one)))
			}
			spoilNet(one)
			holdHanded(t, "Twin", n, l)
			if !slices.Equal(told(two), l) {
				t.Fatalf("two twins of %s share memory", shown(l))
			}
			spoilNet(n)
			if !slices.Equal(told(two), l) {
				t.Fatalf("the twin of %s shares memory with what was handed in", shown(l))
			}
			if many <= most {
				holdApart(t, "Twin", two)
			}
		}
	}
	for _, n := range [][][]byte{nil, {}, make([][]byte, 0, 5)} {
		if twin := net.Twin(n); len(twin) != 0 {
			t.Errorf("the twin of an empty net has %d texts", len(twin))
		}
	}
}

// P16.3: what is handed in is as it was, also behind its ends, and also where an error is told.
func TestOnlyRead(t *testing.T) {
	for _, many := range append(counts(), noCounts()[:4]...) {
		for _, l := range kinds(many) {
			n := roomyNet(l)
			net.Check(n)
			net.Same(n, n)
			net.Same(n, laid(l))
			net.Twin(n)
			holdHanded(t, "Check, Same and Twin", n, l)
			for _, text := range []string{"", "x", strings.Repeat("y", 300)} {
				holdSend(t, l, text)
			}
			for _, i := range append(noPlaces(many), 0, 1, many/2, many-1) {
				holdTake(t, l, i)
				holdTwice(t, l, i)
			}
		}
	}
}

// P16.3: what is answered is new memory: what becomes of it changes nothing that was handed in, nor another answer; nor the other way round.
func TestNewMemory(t *testing.T) {
	for _, many := range counts() {
		for _, l := range kinds(many) {
			for i := -1; i < many; i++ {
				for _, c := range calls(i) {
					n, b := roomyNet(l), roomy("sent")
					one, two := c.parts(n, b), c.parts(n, b)
					want := told(slices.Concat(two...))
					for _, part := range one {
						spoilNet(part)
					}
					holdHanded(t, c.name, n, l)
					holdText(t, c.name, b, "sent")
					spoilNet(n)
					spoil(b)
					if got := told(slices.Concat(two...)); !slices.Equal(got, want) {
						t.Fatalf("%s of %s shares memory", c.name, shown(l))
					}
				}
			}
		}
	}
}

// P16.3: no two parts of an answer share memory: what was taken beside the rest, and what was put down behind beside the others; also where those that were handed in share it.
func TestPartsApart(t *testing.T) {
	for _, many := range []int{1, 2, 3, 20, 63, 64} {
		for _, n := range [][][]byte{laid(named(many)), clones(many), slices.Repeat([][]byte{roomy("one")}, many)} {
			for _, i := range []int{-1, 0, many / 2, many - 1} {
				for _, c := range calls(i) {
					// What is sent shares memory with what is on its way.
					for _, b := range [][]byte{[]byte("sent"), n[0], n[many-1], n[0][:1]} {
						want := told(n)
						var parts [][]byte
						for _, l := range c.parts(n, b) {
							// Nor what lies in the capacity of what was answered.
							parts = append(parts, l[:cap(l)]...)
						}
						holdApart(t, c.name, parts)
						if !slices.Equal(told(n), want) {
							t.Fatalf("%s: what was handed in is changed", c.name)
						}
					}
				}
			}
		}
	}
}

// P16.3: what is answered is put to use by append without a change of anything else.
func TestAppend(t *testing.T) {
	for _, many := range counts() {
		n := laid(named(many))
		for i := range many {
			out, b, e := net.Take(n, i)
			if e != api.OK {
				t.Fatalf("Take of %d: error %d", i, e)
			}
			want := told(out)
			grown := append(out, []byte("more"))
			_ = append(b, " and more"...)
			if !slices.Equal(told(out), want) || !slices.Equal(told(grown), append(want, "more")) || !slices.Equal(told(n), named(many)) {
				t.Fatalf("grown behind the text %d of %d", i, many)
			}
			for k := range out {
				_ = append(out[k], " and more"...)
			}
			if !slices.Equal(told(out), want) || string(b) != named(many)[i] {
				t.Fatalf("grown texts beside the text %d of %d", i, many)
			}
		}
	}
}

// P16.4: what is taken was sent, or doubled; nothing else comes in, and nothing else goes; the others stay in their order.
func TestWhatFollows(t *testing.T) {
	r := seeded(1)
	for range 60 {
		var n [][]byte
		var marks []string
		room := 1 + r.IntN(most)
		for k := range 400 {
			many := len(marks)
			switch what := r.IntN(4); {
			case what < 2 && many < room || many == 0:
				text := fmt.Sprintf("%d", k)
				n = mustSend(t, n, text)
				marks = append(marks, text)
			case what == 2 && many < room:
				i := r.IntN(many)
				n = mustTwice(t, n, i)
				marks = append(marks, marks[i])
			default:
				i := r.IntN(many)
				var b string
				if n, b = mustTake(t, n, i); b != marks[i] {
					t.Fatalf("taken is %q; want %q", b, marks[i])
				}
				marks = append(slices.Clone(marks[:i]), marks[i+1:]...)
			}
			holdNet(t, "what is on its way", n, net.Check(n), marks, api.OK)
		}
		if t.Failed() {
			t.FailNow()
		}
	}
}

// P16.4: what was sent is taken, as often as it was sent and doubled, and no more; what a full net lost is never taken.
func TestAllIsTaken(t *testing.T) {
	r := seeded(2)
	for range 100 {
		left := map[string]int{}
		var n [][]byte
		for k := range 2 * most {
			text := fmt.Sprintf("%d", k)
			full := len(n) == most
			n = mustSend(t, n, text)
			if !full {
				left[text]++
			}
			i := r.IntN(len(n))
			full, text = len(n) == most, string(n[i])
			if n = mustTwice(t, n, i); !full {
				left[text]++
			}
		}
		for many := most; many > 0; many-- {
			if len(n) != many {
				t.Fatalf("%d texts; want %d", len(n), many)
			}
			var b string
			n, b = mustTake(t, n, r.IntN(many))
			left[b]--
		}
		for text, many := range left {
			if many != 0 {
				t.Fatalf("%q is left %d times", text, many)
			}
		}
		refuse(t, told(n), 0, api.ErrArg)
	}
}

// P16.4: texts that are sent, and taken from the first on, come in their order; from the last on, the other way round.
func TestOrder(t *testing.T) {
	for many := range most + 1 {
		var n [][]byte
		for _, text := range named(many) {
			n = mustSend(t, n, text)
		}
		first, last := n, n
		var b string
		for i, text := range named(many) {
			if first, b = mustTake(t, first, 0); b != text {
				t.Fatalf("the text %d of %d, taken from the first on, is %q", i, many, b)
			}
			if last, b = mustTake(t, last, len(last)-1); b != named(many)[many-1-i] {
				t.Fatalf("the text %d of %d, taken from the last on, is %q", i, many, b)
			}
		}
		if len(first) != 0 || len(last) != 0 || len(n) != many {
			t.Fatalf("%d and %d are left of %d", len(first), len(last), len(n))
		}
	}
}

// P1: each call ends, and none panics, whatever comes; the answers are those of the chapter's words.
func TestWhatever(t *testing.T) {
	r := seeded(3)
	for range 2500 {
		l := mixed(r, []int{0, 1, 2, r.IntN(most), 63, 64, 65, r.IntN(200)}[r.IntN(8)])
		i := []int{r.IntN(most), len(l) - 1, len(l), int(r.Uint64()), -r.IntN(most), r.IntN(len(l) + 1)}[r.IntN(6)]
		holdCheck(t, l)
		holdSend(t, l, mixed(r, 1)[0])
		holdTake(t, l, i)
		holdTwice(t, l, i)
		other := mixed(r, len(l))
		holdSame(t, laid(l), laid(other), slices.Equal(l, other))
		if twin := net.Twin(laid(l)); !slices.Equal(told(twin), l) {
			t.Errorf("the twin of %s is %s", shown(l), shown(told(twin)))
		}
		if t.Failed() {
			t.FailNow()
		}
	}
}

// P1: very long texts, and very many of them, are told or refused as others are.
func TestHuge(t *testing.T) {
	huge := bytes.Repeat([]byte("h"), 1<<24)
	n, e := net.Send(nil, huge)
	if e != api.OK || len(n) != 1 || !bytes.Equal(n[0], huge) {
		t.Fatalf("a huge text: %d texts, error %d", len(n), e)
	}
	n = mustTwice(t, n, 0)
	n[0][1<<24-1]++
	if out, b, e := net.Take(n, 1); e != api.OK || len(out) != 1 || !bytes.Equal(b, huge) {
		t.Errorf("a huge text's double: %d texts, error %d", len(out), e)
	}
	many := make([][]byte, 1<<20)
	refuse(t, told(many), 0, api.ErrBad)
	twin := net.Twin(many)
	holdSame(t, many[:1<<10], twin[:1<<10], true)
	if !net.Same(many, twin) {
		t.Error("very many texts and their twin")
	}
	twin[1<<20-1] = []byte("x")
	if net.Same(many, twin) {
		t.Error("very many texts but for one")
	}
}

// P1: nothing is kept from call to call, whoever calls between.
func TestNothingIsKept(t *testing.T) {
	var all sync.WaitGroup
	shared := named(40)
	n := laid(shared)
	for i := range 16 {
		all.Add(1)
		go func() {
			defer all.Done()
			for k := range 200 {
				l := mixed(seeded(uint64(1000*i+k)), (i*k)%70)
				holdCheck(t, l)
				holdSend(t, l, "x")
				holdTake(t, l, k%64)
				holdTwice(t, l, k%64)
				// One net that all of them hand in.
				out, b, e := net.Take(n, k%40)
				want, text, _ := toldTake(shared, k%40)
				holdNet(t, "Take of one net of all", out, e, want, api.OK)
				if string(b) != text {
					t.Errorf("taken is %q; want %q", b, text)
				}
			}
		}()
	}
	all.Wait()
}

// call is one of the calls that answer nets: the lists that it answers.
type call struct {
	name  string
	parts func(n [][]byte, b []byte) [][][]byte
}

// calls are those of the place i: Send and Twin, where that is -1.
func calls(i int) []call {
	if i < 0 {
		return []call{
			{"Send", func(n [][]byte, b []byte) [][][]byte {
				out, _ := net.Send(n, b)
				return [][][]byte{out}
			}},
			{"Twin", func(n [][]byte, b []byte) [][][]byte { return [][][]byte{net.Twin(n)} }},
		}
	}
	return []call{
		{"Take", func(n [][]byte, b []byte) [][][]byte {
			out, taken, _ := net.Take(n, i)
			return [][][]byte{out, {taken}}
		}},
		{"Twice", func(n [][]byte, b []byte) [][][]byte {
			out, _ := net.Twice(n, i)
			return [][][]byte{out}
		}},
	}
}

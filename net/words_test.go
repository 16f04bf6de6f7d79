package net_test

import (
	"bytes"
	"fmt"
	"math"
	"math/rand/v2"
	"slices"
	"strings"
	"testing"

	"catamaran/api"
	"catamaran/net"
)

const most = 64 // texts of a net

func seeded(seed uint64) *rand.Rand { return rand.New(rand.NewPCG(seed, 16)) }

// counts are numbers of texts of nets that may be.
func counts() []int { return []int{0, 1, 2, 3, 7, 32, 62, 63, 64} }

// noCounts are numbers of texts of which no net has so many.
func noCounts() []int {
	return []int{65, 66, 67, 127, 128, 129, 255, 256, 257, 320, 1000, 4096, 65600}
}

// noPlaces are places that there are not, of so many.
func noPlaces(many int) []int {
	return []int{-1, -2, -many, -many - 1, many, many + 1, max(many, 63), max(many, 64), 65, 127, 128, 255, 256, 257, -63, -64, -65, -128, -256,
		math.MaxInt, math.MaxInt - 1, math.MaxInt - 63, math.MinInt, math.MinInt + 1, math.MinInt + 63,
		math.MaxInt32, math.MinInt32, 1 << 32, 1<<32 + 1, -1 << 32, 1 - 1<<32, 1 << 40, math.MinInt + many, math.MaxInt - many}
}

// noPlace tells whether that is a place that there is not, of so many.
func noPlace(many, i int) bool { return i < 0 || i > many-1 }

// named are texts of which no two are the same.
func named(many int) []string {
	var l []string
	for i := range many {
		l = append(l, fmt.Sprintf("text %d", i))
	}
	return l
}

// mixed are texts of many lengths: some are empty, some are alike.
func mixed(r *rand.Rand, many int) []string {
	var l []string
	for range many {
		size := []int{0, 0, 1, 2, 20, 84, 300, 5000}[r.IntN(8)]
		l = append(l, strings.Repeat(string(rune('a'+r.IntN(3))), size))
	}
	return l
}

// kinds are nets of so many texts: unlike ones, the same one all along, no bytes at all, and mixed ones.
func kinds(many int) [][]string {
	return [][]string{named(many), slices.Repeat([]string{"same"}, many), make([]string, many), mixed(seeded(uint64(many)), many)}
}

// laid is a net of these texts: an empty one is nil or empty, in turns.
func laid(l []string) [][]byte {
	n := make([][]byte, len(l), len(l)+3)
	for i, text := range l {
		if text != "" || i%2 == 1 {
			n[i] = []byte(text)
		}
	}
	return n
}

// told are the texts of a net.
func told(n [][]byte) []string {
	l := make([]string, 0, len(n))
	for _, b := range n {
		l = append(l, string(b))
	}
	return l
}

// shown is a net for a test's message, without the rest of long texts.
func shown(l []string) string {
	var out []string
	for _, text := range l[:min(len(l), most+1)] {
		out = append(out, text[:min(len(text), 12)])
	}
	return fmt.Sprintf("%d texts %q", len(l), out)
}

// toldSend is what Send has to answer, by the chapter's words.
func toldSend(l []string, text string) ([]string, api.Errno) {
	switch {
	case len(l) > most:
		return nil, api.ErrBad
	case len(l) == most:
		return l, api.OK
	}
	return slices.Concat(l, []string{text}), api.OK
}

// toldTake is what Take has to answer, by the chapter's words.
func toldTake(l []string, i int) ([]string, string, api.Errno) {
	switch {
	case len(l) > most:
		return nil, "", api.ErrBad
	case noPlace(len(l), i):
		return nil, "", api.ErrArg
	}
	var left []string
	for at, text := range l {
		if at != i {
			left = append(left, text)
		}
	}
	return left, l[i], api.OK
}

// toldTwice is what Twice has to answer, by the chapter's words.
func toldTwice(l []string, i int) ([]string, api.Errno) {
	switch {
	case len(l) > most:
		return nil, api.ErrBad
	case noPlace(len(l), i):
		return nil, api.ErrArg
	}
	return toldSend(l, l[i])
}

// holdNet holds what was answered, a net and an error, against what had to be.
func holdNet(t *testing.T, call string, out [][]byte, e api.Errno, want []string, wantE api.Errno) {
	t.Helper()
	if !slices.Equal(told(out), want) || e != wantE {
		t.Errorf("%s: %s, error %d; want %s, error %d", call, shown(told(out)), e, shown(want), wantE)
	}
}

// holdCheck holds what Check tells of a net.
func holdCheck(t *testing.T, l []string) {
	t.Helper()
	want := api.OK
	if len(l) > most {
		want = api.ErrBad
	}
	if e := net.Check(laid(l)); e != want {
		t.Errorf("Check of %s: error %d; want %d", shown(l), e, want)
	}
}

// holdSend holds what Send answers, and that what was handed in is as it was.
func holdSend(t *testing.T, l []string, text string) {
	t.Helper()
	n, b := roomyNet(l), roomy(text)
	out, e := net.Send(n, b)
	want, wantE := toldSend(l, text)
	call := fmt.Sprintf("Send of %d bytes to %s", len(text), shown(l))
	holdNet(t, call, out, e, want, wantE)
	holdHanded(t, call, n, l)
	holdText(t, call, b, text)
}

// holdTake holds what Take answers, and that what was handed in is as it was.
func holdTake(t *testing.T, l []string, i int) {
	t.Helper()
	n := roomyNet(l)
	out, b, e := net.Take(n, i)
	want, text, wantE := toldTake(l, i)
	call := fmt.Sprintf("Take of %d from %s", i, shown(l))
	holdNet(t, call, out, e, want, wantE)
	if string(b) != text {
		t.Errorf("%s: taken is %q; want %q", call, b, text)
	}
	holdHanded(t, call, n, l)
}

// holdTwice holds what Twice answers, and that what was handed in is as it was.
func holdTwice(t *testing.T, l []string, i int) {
	t.Helper()
	n := roomyNet(l)
	out, e := net.Twice(n, i)
	want, wantE := toldTwice(l, i)
	call := fmt.Sprintf("Twice of %d of %s", i, shown(l))
	holdNet(t, call, out, e, want, wantE)
	holdHanded(t, call, n, l)
}

// refuse holds that each call refuses what it is given, by an error beside which nothing stands.
func refuse(t *testing.T, l []string, i int, want api.Errno) {
	t.Helper()
	if out, b, e := net.Take(laid(l), i); len(out) != 0 || len(b) != 0 || e != want {
		t.Errorf("Take of %d from %s: %s and %q, error %d; want error %d", i, shown(l), shown(told(out)), b, e, want)
	}
	if out, e := net.Twice(laid(l), i); len(out) != 0 || e != want {
		t.Errorf("Twice of %d of %s: %s, error %d; want error %d", i, shown(l), shown(told(out)), e, want)
	}
	if want != api.ErrBad {
		return
	}
	if out, e := net.Send(laid(l), []byte("x")); len(out) != 0 || e != want {
		t.Errorf("Send to %s: %s, error %d; want error %d", shown(l), shown(told(out)), e, want)
	}
}

func mustSend(t *testing.T, n [][]byte, text string) [][]byte {
	t.Helper()
	out, e := net.Send(n, []byte(text))
	if e != api.OK {
		t.Fatalf("Send of %q to %s: error %d", text, shown(told(n)), e)
	}
	return out
}

func mustTake(t *testing.T, n [][]byte, i int) ([][]byte, string) {
	t.Helper()
	out, b, e := net.Take(n, i)
	if e != api.OK {
		t.Fatalf("Take of %d from %s: error %d", i, shown(told(n)), e)
	}
	return out, string(b)
}

func mustTwice(t *testing.T, n [][]byte, i int) [][]byte {
	t.Helper()
	out, e := net.Twice(n, i)
	if e != api.OK {
		t.Fatalf("Twice of %d of %s: error %d", i, shown(told(n)), e)
	}
	return out
}

func holdSame(t *testing.T, a, b [][]byte, want bool) {
	t.Helper()
	if net.Same(a, b) != want || net.Same(b, a) != want {
		t.Errorf("Same of %s and %s: %v, %v; want %v", shown(told(a)), shown(told(b)), net.Same(a, b), net.Same(b, a), want)
	}
}

// turned are nets that differ from l in one thing each.
func turned(l []string) [][]string {
	out := [][]string{slices.Concat(l, []string{""}), slices.Concat([]string{"x"}, l), slices.Concat(l, l, []string{"x"})}
	if len(l) == 0 {
		return out
	}
	put := func(i int, text string) {
		other := slices.Clone(l)
		other[i] = text
		out = append(out, other)
	}
	for _, i := range []int{0, len(l) / 2, len(l) - 1} {
		put(i, l[i]+"x")
		put(i, "x"+l[i])
		if many := len(l[i]); many > 0 {
			put(i, "")
			put(i, l[i][:many-1])
			put(i, l[i][:many-1]+"~")
			put(i, "~"+l[i][1:])
		}
	}
	return append(out, l[1:], l[:len(l)-1])
}

const behind = "----"

// roomy is a text with more behind its end.
func roomy(text string) []byte { return []byte(text + behind)[:len(text)] }

// roomyNet is a net of roomy texts, with more texts behind its end.
func roomyNet(l []string) [][]byte {
	var n [][]byte
	for _, text := range l {
		n = append(n, roomy(text))
	}
	return append(n, []byte(behind), []byte(behind))[:len(l)]
}

// holdText holds that b is as roomy made it.
func holdText(t *testing.T, call string, b []byte, text string) {
	t.Helper()
	if whole := b[:len(b)+len(behind)]; string(whole) != text+behind {
		t.Errorf("%s: handed in was %q, and is %q", call, text+behind, whole)
	}
}

// holdHanded holds that n is as roomyNet made it.
func holdHanded(t *testing.T, call string, n [][]byte, l []string) {
	t.Helper()
	if len(n) != len(l) {
		t.Fatalf("%s: handed in were %d texts, and are %d", call, len(l), len(n))
	}
	for i := range l {
		if len(n[i]) != len(l[i]) {
			t.Fatalf("%s: handed in was %q as %d, and is %q", call, l[i], i, n[i])
		}
		holdText(t, call, n[i], l[i])
	}
	for _, b := range n[len(n) : len(n)+2] {
		if string(b) != behind {
			t.Errorf("%s: behind what was handed in is %q", call, b)
		}
	}
}

// spoil changes a text, and what lies in its capacity.
func spoil(b []byte) {
	b = b[:cap(b)]
	for i := range b {
		b[i] += 99
	}
}

// spoilNet changes all texts of a net, and the net's places, and what lies in its capacity.
func spoilNet(n [][]byte) {
	n = n[:cap(n)]
	for i := range n {
		spoil(n[i])
		n[i] = []byte("spoilt")
	}
}

// holdApart holds that no two of these texts share memory, by changing one after the other, and what lies in its capacity.
func holdApart(t *testing.T, call string, parts [][]byte) {
	t.Helper()
	want := told(parts)
	for i, b := range parts {
		spoil(b)
		for k, other := range parts {
			if k != i && string(other) != want[k] {
				t.Fatalf("%s: the parts %d and %d share memory", call, i, k)
			}
		}
		copy(b, want[i])
	}
}

// clones is a net whose texts are alike, and of one memory, each with those behind it in its capacity.
func clones(many int) [][]byte {
	all := bytes.Repeat([]byte("x"), many+8)
	var n [][]byte
	for i := range many {
		n = append(n, all[i/2:i/2+5])
	}
	return n
}

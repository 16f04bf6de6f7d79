package bits_test

import (
	"bytes"
	"math"
	"math/rand/v2"
	"slices"
	"testing"

	"catamaran/api"
	"catamaran/bits"
)

const (
	most = 16 // tracks
	page = 8  // tracks of a page
)

// edges are numbers of tracks that may be, and beside them stand bad ones.
func edges() []int { return []int{1, 7, 8, 9, 15, 16} }

func bad() []int {
	return []int{0, 17, -1, -8, -16, 18, 24, 32, 256, 257, math.MaxInt, math.MinInt, math.MaxInt - 7, math.MinInt + 1}
}

// noTracks are numbers of which none is a track of n.
func noTracks(n int) []int {
	return []int{n, n + 1, n + 8, -1, -2, -n, 16, 17, 255, 256, -256, math.MaxInt, math.MinInt}
}

func seeded(seed uint64) *rand.Rand { return rand.New(rand.NewPCG(seed, 3)) }

// spelt is the chapter's words for a set: a byte for each 8 tracks or a part of so many, and of each track 2 to the power of it, modulo 8.
func spelt(n int, in []bool) []byte {
	var s []byte
	for first := 0; first < n; first += page {
		sum, power := 0, 1
		for t := first; t < first+page && t < n; t++ {
			if in[t] {
				sum += power
			}
			power *= 2
		}
		s = append(s, byte(sum))
	}
	return s
}

// chosen tells which of n tracks a number has, by its bits.
func chosen(n, number int) []bool {
	in := make([]bool, n)
	for t := range in {
		in[t] = number%2 == 1
		number /= 2
	}
	return in
}

func listed(in []bool) []int {
	var l []int
	for t, is := range in {
		if is {
			l = append(l, t)
		}
	}
	return l
}

// some are numbers of sets of n tracks: all of them if they are few, else those at the ends, and others.
func some(r *rand.Rand, n int) []int {
	all := 1 << n
	if n <= 9 {
		var l []int
		for x := range all {
			l = append(l, x)
		}
		return l
	}
	l := []int{0, 1, all / 2, all - 1, all - 2, 0xff, 0x100, 0x80, 0x180}
	for t := range n {
		l = append(l, 1<<t, all-1-1<<t)
	}
	for range 200 {
		l = append(l, r.IntN(all))
	}
	return l
}

// wrong are pages that are no set of n tracks.
func wrong(n int) [][]byte {
	l := [][]byte{nil, {}, make([]byte, 3), make([]byte, 16), make([]byte, 4096), {0, 0, 1}}
	if n <= page {
		l = append(l, []byte{0, 0}, []byte{1, 0})
	} else {
		l = append(l, []byte{0}, []byte{255})
	}
	last := (n - 1) / page
	for t := n; t < page*(last+1); t++ {
		s := make([]byte, last+1)
		s[last] = 1 << (t % page)
		full := bytes.Repeat([]byte{255}, last+1)
		l = append(l, s, full)
	}
	return l
}

func mustOf(t *testing.T, n int, l []int) []byte {
	t.Helper()
	s, e := bits.Of(n, l)
	if e != api.OK {
		t.Fatalf("Of(%d, %v): error %d", n, l, e)
	}
	return s
}

func mustList(t *testing.T, n int, s []byte) []int {
	t.Helper()
	l, e := bits.List(n, s)
	if e != api.OK {
		t.Fatalf("List(%d, %v): error %d", n, s, e)
	}
	return l
}

func mustNext(t *testing.T, n int, s []byte, from int) int {
	t.Helper()
	next, e := bits.Next(n, s, from)
	if e != api.OK {
		t.Fatalf("Next(%d, %v, %d): error %d", n, s, from, e)
	}
	return next
}

func mustPut(t *testing.T, n int, s []byte, track int, is bool) []byte {
	t.Helper()
	put, e := bits.Put(n, s, track, is)
	if e != api.OK {
		t.Fatalf("Put(%d, %v, %d, %v): error %d", n, s, track, is, e)
	}
	return put
}

func mustOr(t *testing.T, n int, a, b []byte) []byte {
	t.Helper()
	s, e := bits.Or(n, a, b)
	if e != api.OK {
		t.Fatalf("Or(%d, %v, %v): error %d", n, a, b, e)
	}
	return s
}

func mustMinus(t *testing.T, n int, a, b []byte) []byte {
	t.Helper()
	s, e := bits.Minus(n, a, b)
	if e != api.OK {
		t.Fatalf("Minus(%d, %v, %v): error %d", n, a, b, e)
	}
	return s
}

func refuseOf(t *testing.T, n int, l []int) {
	t.Helper()
	if s, e := bits.Of(n, l); len(s) != 0 || e != api.ErrArg {
		t.Errorf("Of(%d, %v): %v, error %d; want nothing, error %d", n, l, s, e, api.ErrArg)
	}
}

// refuseSet holds that all calls that are handed one set tell that error, and nothing beside.
func refuseSet(t *testing.T, n int, s []byte, track int, want api.Errno) {
	t.Helper()
	if e := bits.Check(n, s); e != want {
		t.Errorf("Check(%d, %v): %d; want %d", n, s, e, want)
	}
	if l, e := bits.List(n, s); len(l) != 0 || e != want {
		t.Errorf("List(%d, %v): %v, error %d; want nothing, error %d", n, s, l, e, want)
	}
	if many, e := bits.Count(n, s); many != 0 || e != want {
		t.Errorf("Count(%d, %v): %d, error %d; want 0, error %d", n, s, many, e, want)
	}
	refuseTrack(t, n, s, track, want)
}

// refuseTrack holds the same of the calls that are handed a set and a track.
func refuseTrack(t *testing.T, n int, s []byte, track int, want api.Errno) {
	t.Helper()
	if is, e := bits.Has(n, s, track); is || e != want {
		t.Errorf("Has(%d, %v, %d): %v, error %d; want false, error %d", n, s, track, is, e, want)
	}
	for _, is := range []bool{false, true} {
		if put, e := bits.Put(n, s, track, is); len(put) != 0 || e != want {
			t.Errorf("Put(%d, %v, %d, %v): %v, error %d; want nothing, error %d", n, s, track, is, put, e, want)
		}
	}
	if next, e := bits.Next(n, s, track); next != 0 || e != want {
		t.Errorf("Next(%d, %v, %d): %d, error %d; want 0, error %d", n, s, track, next, e, want)
	}
}

// refuseBoth holds the same of the calls that are handed two sets.
func refuseBoth(t *testing.T, n int, a, b []byte, want api.Errno) {
	t.Helper()
	if s, e := bits.Or(n, a, b); len(s) != 0 || e != want {
		t.Errorf("Or(%d, %v, %v): %v, error %d; want nothing, error %d", n, a, b, s, e, want)
	}
	if s, e := bits.Minus(n, a, b); len(s) != 0 || e != want {
		t.Errorf("Minus(%d, %v, %v): %v, error %d; want nothing, error %d", n, a, b, s, e, want)
	}
}

// The chapter's examples.
func TestExamples(t *testing.T) {
	s := mustOf(t, 10, []int{1, 8, 9, 1})
	if !bytes.Equal(s, []byte{2, 3}) {
		t.Errorf("1, 8, 9, 1 of 10: %v", s)
	}
	if next := mustNext(t, 10, s, 2); next != 8 {
		t.Errorf("next from 2: %d", next)
	}
	if next := mustNext(t, 10, s, 9); next != 9 {
		t.Errorf("next from 9: %d", next)
	}
	if m := mustMinus(t, 10, s, mustOf(t, 10, []int{8})); !bytes.Equal(m, []byte{2, 2}) {
		t.Errorf("without 8: %v", m)
	}
	if e := bits.Check(10, []byte{0, 4}); e != api.ErrBad {
		t.Errorf("a bit of track 10 of 10: %d", e)
	}
	refuseOf(t, 17, nil)
}

// P3.1, Check: of each number of tracks, each one page, and each two pages.
func TestCheck(t *testing.T) {
	for n := 1; n <= most; n++ {
		for number := range 1 << 16 {
			two := []byte{byte(number), byte(number >> 8)}
			holdCheck(t, n, two, n > page && number < 1<<n)
		}
		for number := range 256 {
			holdCheck(t, n, []byte{byte(number)}, n <= page && number < 1<<n)
		}
	}
}

func holdCheck(t *testing.T, n int, s []byte, may bool) {
	t.Helper()
	want := api.ErrBad
	if may {
		want = api.OK
	}
	if e := bits.Check(n, s); e != want {
		t.Errorf("Check(%d, %v): %d; want %d", n, s, e, want)
	}
}

// P3.1, Check, and P3.2, all others' first error: too few pages, too many, and bits of no track; what lies in a set's capacity is none of its pages.
func TestWrongSets(t *testing.T) {
	for n := 1; n <= most; n++ {
		for _, s := range wrong(n) {
			refuseSet(t, n, s, 0, api.ErrBad)
			refuseSet(t, n, s, n-1, api.ErrBad)
		}
		refuseSet(t, n, make([]byte, 0, 8), 0, api.ErrBad)
	}
	refuseSet(t, 9, make([]byte, 1, 8), 0, api.ErrBad)
}

// P3.1 and P3.2: a number of tracks that may not be is told ahead of sets that may not be, and of tracks that there are none of.
func TestWrongMany(t *testing.T) {
	sets := [][]byte{nil, {}, {0}, {1}, {255}, {0, 0}, {255, 255}, make([]byte, 3), make([]byte, 32), make([]byte, 1000)}
	for _, n := range bad() {
		for _, s := range sets {
			for _, track := range []int{0, 1, n - 1, n, -1, math.MaxInt, math.MinInt} {
				refuseSet(t, n, s, track, api.ErrArg)
			}
			for _, other := range sets {
				refuseBoth(t, n, s, other, api.ErrArg)
			}
		}
		for _, l := range [][]int{nil, {}, {0}, {n - 1}, {-1}, {n}} {
			refuseOf(t, n, l)
		}
		if s, e := bits.All(n); len(s) != 0 || e != api.ErrArg {
			t.Errorf("All(%d): %v, error %d", n, s, e)
		}
	}
}

// P3.1, Of: tracks in whatever order, and however often each stands there.
func TestOf(t *testing.T) {
	r := seeded(1)
	for n := 1; n <= most; n++ {
		for _, l := range [][]int{nil, {}} {
			if s := mustOf(t, n, l); !bytes.Equal(s, spelt(n, make([]bool, n))) {
				t.Errorf("Of(%d, no tracks): %v", n, s)
			}
		}
		for _, number := range some(r, n) {
			in := chosen(n, number)
			l := listed(in)
			if len(l) > 0 {
				for range r.IntN(4) {
					l = append(l, l[r.IntN(len(l))])
				}
			}
			r.Shuffle(len(l), func(i, k int) { l[i], l[k] = l[k], l[i] })
			if s := mustOf(t, n, l); !bytes.Equal(s, spelt(n, in)) {
				t.Fatalf("Of(%d, %v): %v; want %v", n, l, s, spelt(n, in))
			}
		}
	}
	if s := mustOf(t, 16, slices.Repeat([]int{15, 0}, 5000)); !bytes.Equal(s, []byte{1, 128}) {
		t.Errorf("0 and 15, often: %v", s)
	}
}

// P3.1, Of: one that is no track, wherever it stands.
func TestOfWrong(t *testing.T) {
	for n := 1; n <= most; n++ {
		for _, no := range noTracks(n) {
			refuseOf(t, n, []int{no})
			refuseOf(t, n, []int{no, 0})
			refuseOf(t, n, []int{0, no})
			refuseOf(t, n, []int{n - 1, no, 0})
			refuseOf(t, n, []int{no, no})
		}
	}
}

// P3.1, All: each track, and no bit beside.
func TestAll(t *testing.T) {
	want := [][]byte{1: {1}, 2: {3}, 3: {7}, 4: {15}, 5: {31}, 6: {63}, 7: {127}, 8: {255}, 9: {255, 1}, 10: {255, 3}, 11: {255, 7}, 12: {255, 15}, 13: {255, 31}, 14: {255, 63}, 15: {255, 127}, 16: {255, 255}}
	for n := 1; n <= most; n++ {
		s, e := bits.All(n)
		if e != api.OK || !bytes.Equal(s, want[n]) {
			t.Errorf("All(%d): %v, error %d; want %v", n, s, e, want[n])
		}
		if e := bits.Check(n, s); e != api.OK {
			t.Errorf("Check of all %d: %d", n, e)
		}
	}
}

// P3.2, List, Count and Has.
func TestListCountHas(t *testing.T) {
	r := seeded(2)
	for n := 1; n <= most; n++ {
		for _, number := range some(r, n) {
			holdListCountHas(t, n, chosen(n, number))
		}
	}
}

func holdListCountHas(t *testing.T, n int, in []bool) {
	t.Helper()
	s, want := spelt(n, in), listed(in)
	if l := mustList(t, n, s); !slices.Equal(l, want) {
		t.Errorf("List(%d, %v): %v; want %v", n, s, l, want)
	}
	if many, e := bits.Count(n, s); e != api.OK || many != len(want) {
		t.Errorf("Count(%d, %v): %d, error %d; want %d", n, s, many, e, len(want))
	}
	for track := range n {
		if is, e := bits.Has(n, s, track); e != api.OK || is != in[track] {
			t.Errorf("Has(%d, %v, %d): %v, error %d", n, s, track, is, e)
		}
	}
}

// P3.2, Put: with each track and without, whether it was there or not; no other track turns.
func TestPut(t *testing.T) {
	r := seeded(3)
	for n := 1; n <= most; n++ {
		for _, number := range some(r, n) {
			in := chosen(n, number)
			s := spelt(n, in)
			for track := range n {
				for _, is := range []bool{false, true} {
					then := slices.Clone(in)
					then[track] = is
					if put := mustPut(t, n, s, track, is); !bytes.Equal(put, spelt(n, then)) {
						t.Fatalf("Put(%d, %v, %d, %v): %v; want %v", n, s, track, is, put, spelt(n, then))
					}
				}
			}
		}
	}
}

// P3.2, Has, Put and Next: numbers of no track; a set that may not be is told first.
func TestWrongTracks(t *testing.T) {
	for n := 1; n <= most; n++ {
		for _, no := range noTracks(n) {
			all, _ := bits.All(n)
			refuseTrack(t, n, all, no, api.ErrArg)
			refuseTrack(t, n, make([]byte, len(all)), no, api.ErrArg)
			for _, s := range wrong(n) {
				refuseTrack(t, n, s, no, api.ErrBad)
			}
		}
	}
}

// P3.2, Or and Minus: each two sets of few tracks, and many of more.
func TestOrMinus(t *testing.T) {
	r := seeded(4)
	for n := 1; n <= 6; n++ {
		for one := range 1 << n {
			for two := range 1 << n {
				holdOrMinus(t, n, chosen(n, one), chosen(n, two))
			}
		}
	}
	for n := 7; n <= most; n++ {
		for _, one := range some(r, n) {
			for _, two := range []int{0, one, 1<<n - 1, 1<<n - 1 - one, 1 << (n - 1), r.IntN(1 << n), r.IntN(1 << n)} {
				holdOrMinus(t, n, chosen(n, one), chosen(n, two))
			}
		}
	}
}

func holdOrMinus(t *testing.T, n int, a, b []bool) {
	t.Helper()
	or, minus := make([]bool, n), make([]bool, n)
	for track := range n {
		or[track] = a[track] || b[track]
		minus[track] = a[track] && !b[track]
	}
	one, two := spelt(n, a), spelt(n, b)
	if s := mustOr(t, n, one, two); !bytes.Equal(s, spelt(n, or)) {
		t.Errorf("Or(%d, %v, %v): %v; want %v", n, one, two, s, spelt(n, or))
	}
	if s := mustMinus(t, n, one, two); !bytes.Equal(s, spelt(n, minus)) {
		t.Errorf("Minus(%d, %v, %v): %v; want %v", n, one, two, s, spelt(n, minus))
	}
}

// P3.2, Or and Minus: the first set may not be, the second one, or both.
func TestWrongBoth(t *testing.T) {
	for n := 1; n <= most; n++ {
		all, _ := bits.All(n)
		for _, s := range wrong(n) {
			refuseBoth(t, n, s, all, api.ErrBad)
			refuseBoth(t, n, all, s, api.ErrBad)
			refuseBoth(t, n, s, make([]byte, len(all)), api.ErrBad)
			refuseBoth(t, n, make([]byte, len(all)), s, api.ErrBad)
			refuseBoth(t, n, s, s, api.ErrBad)
			for _, other := range wrong(n) {
				refuseBoth(t, n, s, other, api.ErrBad)
			}
		}
	}
}

// P3.2, Next: from each track on, going round; -1 of an empty set, and of no other one.
func TestNext(t *testing.T) {
	r := seeded(5)
	for n := 1; n <= most; n++ {
		for _, number := range some(r, n) {
			in := chosen(n, number)
			for from := range n {
				if next := mustNext(t, n, spelt(n, in), from); next != looked(in, from) {
					t.Fatalf("Next(%d, %v, %d): %d; want %d", n, spelt(n, in), from, next, looked(in, from))
				}
			}
		}
	}
}

// looked goes by the tracks from one on, then by those ahead of it.
func looked(in []bool, from int) int {
	for t := from; t < len(in); t++ {
		if in[t] {
			return t
		}
	}
	return slices.Index(in[:from], true)
}

// P3.3: what is handed in is as it was, also behind its end.
func TestOnlyRead(t *testing.T) {
	for _, n := range edges() {
		many := (n + page - 1) / page
		for _, fill := range []byte{0, 1, 255} {
			room := bytes.Repeat([]byte{fill}, many+6)
			if fill == 255 {
				all, _ := bits.All(n)
				copy(room, all)
			}
			other := bytes.Clone(room)
			room0 := bytes.Clone(room)
			a, b := room[:many], other[:many]
			for track := range n {
				bits.Has(n, a, track)
				mustPut(t, n, a, track, true)
				mustPut(t, n, a, track, false)
				mustNext(t, n, a, track)
			}
			bits.Check(n, a)
			mustList(t, n, a)
			bits.Count(n, a)
			mustOr(t, n, a, b)
			mustMinus(t, n, a, b)
			mustOr(t, n, a, a)
			mustMinus(t, n, a, a)
			if !bytes.Equal(room, room0) || !bytes.Equal(other, room0) {
				t.Errorf("a set of %d that was handed in is changed", n)
			}
		}
		l := []int{n - 1, 0, n - 1, 99, 98}
		mustOf(t, n, l[:3])
		if !slices.Equal(l, []int{n - 1, 0, n - 1, 99, 98}) {
			t.Errorf("a list of tracks that was handed in is changed: %v", l)
		}
	}
}

// P3.3: a change of an answer, or of what was handed in, changes nothing else: also where the answer is the set that was handed in.
func TestNewMemory(t *testing.T) {
	for _, n := range edges() {
		all, _ := bits.All(n)
		none := make([]byte, len(all))
		one := mustOf(t, n, []int{n - 1})
		for _, s := range [][]byte{all, none, one} {
			for name, f := range makers(n, none) {
				holdNew(t, name, s, f)
			}
			l, again := mustList(t, n, s), mustList(t, n, s)
			l = l[:cap(l)]
			for i := range l {
				l[i] = 77
			}
			if third := mustList(t, n, s); !slices.Equal(again, third) {
				t.Errorf("lists of %v share memory: %v", s, again)
			}
		}
	}
}

// makers are the calls that answer a set, by a set.
func makers(n int, none []byte) map[string]func(s []byte) ([]byte, api.Errno) {
	return map[string]func(s []byte) ([]byte, api.Errno){
		"Put with":       func(s []byte) ([]byte, api.Errno) { return bits.Put(n, s, n-1, true) },
		"Put without":    func(s []byte) ([]byte, api.Errno) { return bits.Put(n, s, 0, false) },
		"Or none":        func(s []byte) ([]byte, api.Errno) { return bits.Or(n, s, none) },
		"none Or":        func(s []byte) ([]byte, api.Errno) { return bits.Or(n, none, s) },
		"Or itself":      func(s []byte) ([]byte, api.Errno) { return bits.Or(n, s, s) },
		"Minus none":     func(s []byte) ([]byte, api.Errno) { return bits.Minus(n, s, none) },
		"none Minus":     func(s []byte) ([]byte, api.Errno) { return bits.Minus(n, none, s) },
		"Minus itself":   func(s []byte) ([]byte, api.Errno) { return bits.Minus(n, s, s) },
		"All":            func([]byte) ([]byte, api.Errno) { return bits.All(n) },
		"Of the last":    func([]byte) ([]byte, api.Errno) { return bits.Of(n, []int{n - 1}) },
		"Of none at all": func([]byte) ([]byte, api.Errno) { return bits.Of(n, nil) },
	}
}

func holdNew(t *testing.T, name string, s []byte, f func([]byte) ([]byte, api.Errno)) {
	t.Helper()
	room := append(bytes.Clone(s), 0, 0, 0, 0)
	in := room[:len(s)]
	want, _ := f(bytes.Clone(s))
	want = bytes.Clone(want)
	one, _ := f(in)
	two, _ := f(in)
	spoil(one)
	third, _ := f(in)
	if !bytes.Equal(in, s) || !bytes.Equal(two, want) || !bytes.Equal(third, want) {
		t.Errorf("%s of %v: an answer shares memory", name, s)
	}
	spoil(room)
	if !bytes.Equal(two, want) {
		t.Errorf("%s of %v: an answer shares memory with what was handed in", name, s)
	}
}

// spoil changes a set, and what lies in its capacity.
func spoil(s []byte) {
	s = s[:cap(s)]
	for i := range s {
		s[i] += 99
	}
}

// P3.4: a set is its tracks, there and back, by List and Of, by Has and Put, and by Next and Put.
func TestThereAndBack(t *testing.T) {
	r := seeded(6)
	for n := 1; n <= most; n++ {
		for _, number := range some(r, n) {
			in := chosen(n, number)
			s := spelt(n, in)
			if again := mustOf(t, n, mustList(t, n, s)); !bytes.Equal(again, s) {
				t.Fatalf("%v of %d came back as %v", s, n, again)
			}
			if again := mustList(t, n, mustOf(t, n, listed(in))); !slices.Equal(again, listed(in)) {
				t.Fatalf("%v of %d came back as %v", listed(in), n, again)
			}
			again := mustOf(t, n, nil)
			for track := range n {
				if is, _ := bits.Has(n, s, track); is {
					again = mustPut(t, n, again, track, true)
				}
			}
			if !bytes.Equal(again, s) {
				t.Fatalf("%v of %d was put together as %v", s, n, again)
			}
			for range listed(in) {
				again = mustPut(t, n, again, mustNext(t, n, again, n-1), false)
			}
			if next := mustNext(t, n, again, n-1); next != -1 {
				t.Fatalf("%v of %d has track %d without its tracks", s, n, next)
			}
		}
	}
}

// P3.4: what is put together of two sets fits: what a has and b has not, and b, are what a or b has.
func TestOrOfMinus(t *testing.T) {
	r := seeded(7)
	for range 3000 {
		n := 1 + r.IntN(most)
		a, b := spelt(n, chosen(n, r.IntN(1<<n))), spelt(n, chosen(n, r.IntN(1<<n)))
		if or := mustOr(t, n, mustMinus(t, n, a, b), b); !bytes.Equal(or, mustOr(t, n, a, b)) {
			t.Fatalf("%v, %v of %d: %v", a, b, n, or)
		}
		if minus := mustMinus(t, n, mustOr(t, n, a, b), b); !bytes.Equal(minus, mustMinus(t, n, a, b)) {
			t.Fatalf("%v, %v of %d: %v", a, b, n, minus)
		}
	}
}

// P3.4: going on behind each Next, from wherever, meets all tracks of a set, each once, before the first one comes again.
func TestGoingRound(t *testing.T) {
	r := seeded(8)
	for n := 1; n <= most; n++ {
		for _, number := range some(r, n) {
			if number == 0 {
				continue
			}
			in := chosen(n, number)
			s, many := spelt(n, in), len(listed(in))
			first := mustNext(t, n, s, r.IntN(n))
			met := []int{first}
			for range many - 1 {
				met = append(met, mustNext(t, n, s, (met[len(met)-1]+1)%n))
			}
			if again := mustNext(t, n, s, (met[many-1]+1)%n); again != first {
				t.Fatalf("%v of %d: %d comes behind %v; want %d", s, n, again, met, first)
			}
			slices.Sort(met)
			if !slices.Equal(met, listed(in)) {
				t.Fatalf("%v of %d: met %v", s, n, met)
			}
		}
	}
}

// P1: each call ends, and none panics, whatever comes; beside an error there is nothing, and the error is the one named first.
func TestWhatever(t *testing.T) {
	r := seeded(9)
	for range 20000 {
		n := anyOf(r, append(bad(), 1, 2, 7, 8, 9, 10, 15, 16))
		a, b, track := anySet(r), anySet(r), anyOf(r, append(noTracks(9), 0, 1, 7, 8, 9, 14, 15))
		one, two := want(n, a), want(n, b)
		if one != api.OK {
			refuseSet(t, n, a, track, one)
			refuseBoth(t, n, a, b, one)
			continue
		}
		holdListCountHas(t, n, read(n, a))
		if two != api.OK {
			refuseBoth(t, n, a, b, two)
		} else {
			holdOrMinus(t, n, read(n, a), read(n, b))
		}
		if track < 0 || track >= n {
			refuseTrack(t, n, a, track, api.ErrArg)
			refuseOf(t, n, []int{0, track})
		} else if next := mustNext(t, n, a, track); next != looked(read(n, a), track) {
			t.Errorf("Next(%d, %v, %d): %d", n, a, track, next)
		}
	}
}

func anyOf(r *rand.Rand, l []int) int { return l[r.IntN(len(l))] }

func anySet(r *rand.Rand) []byte {
	s := make([]byte, r.IntN(4))
	for i := range s {
		s[i] = byte(r.Uint32()) >> r.IntN(9)
	}
	return s
}

// want is Check's answer: the set is held against each that may be.
func want(n int, s []byte) api.Errno {
	if n < 1 || n > most {
		return api.ErrArg
	}
	if len(s) != (n+page-1)/page || !bytes.Equal(s, spelt(n, read(n, s))) {
		return api.ErrBad
	}
	return api.OK
}

// read tells which of n tracks a set has, as many pages as there are.
func read(n int, s []byte) []bool {
	in := make([]bool, n)
	for t := range in {
		power := 1
		for range t % page {
			power *= 2
		}
		in[t] = t/page < len(s) && int(s[t/page])/power%2 == 1
	}
	return in
}

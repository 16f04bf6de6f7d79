package diff_test

import (
	"bytes"
	"math"
	"math/rand/v2"
	"slices"
	"sync"
	"testing"

	"catamaran/api"
	"catamaran/bits"
	"catamaran/diff"
	"catamaran/place"
)

// The chapter's examples.
func TestExamples(t *testing.T) {
	c := sample()
	marks, work := of(9, 1, 8), of(9, 8)
	holdMark(t, c, 0, marks, work, 2, answer{of(9, 2, 8), []api.Act{anew(c, 0, 0, 4), flush()}, api.OK})
	holdMark(t, c, 0, marks, work, 8, answer{marks, nil, api.OK})
	holdClean(t, c, 0, marks, work, answer{work, []api.Act{anew(c, 0, 0, 0), flush()}, api.OK})
	holdClean(t, c, 0, marks, marks, answer{marks, nil, api.OK})
	holdFill(t, c, 0, marks, answer{every(9), []api.Act{anew(c, 0, 0, 255), flush()}, api.OK})
}

// The same with all bytes spelt: acts in their order, the writes of the pages in order, where they go, and one flush behind them.
func TestExampleBytes(t *testing.T) {
	c := sample()
	wrote := func(at int, b ...byte) api.Act {
		return api.Act{Kind: api.ActWrite, At: at, Bytes: append(b, make([]byte, 32-len(b))...)}
	}
	end := api.Act{Kind: api.ActFlush}
	holdMark(t, c, 0, []byte{2, 1}, []byte{0, 1}, 2, answer{[]byte{4, 1}, []api.Act{wrote(10, 1, 0, 0, 4), end}, api.OK})
	holdMark(t, c, 0, []byte{2, 1}, []byte{2, 0}, 2, answer{[]byte{6, 1}, []api.Act{wrote(10, 1, 0, 0, 6), end}, api.OK})
	holdMark(t, c, 0, []byte{2, 0}, []byte{0, 0}, 8, answer{[]byte{2, 1}, []api.Act{wrote(11, 1, 0, 1, 1), end}, api.OK})
	holdMark(t, c, 1, []byte{0xf0, 0}, []byte{0x3f, 1}, 0, answer{[]byte{0x31, 0}, []api.Act{wrote(12, 1, 1, 0, 0x31), end}, api.OK})
	holdMark(t, c, 1, []byte{255, 0}, []byte{0, 0}, 8, answer{[]byte{255, 1}, []api.Act{wrote(13, 1, 1, 1, 1), end}, api.OK})
	holdMark(t, c, 1, []byte{255, 0}, []byte{0, 0}, 7, answer{[]byte{255, 0}, nil, api.OK})
	holdClean(t, c, 0, []byte{2, 1}, []byte{0, 0}, answer{[]byte{0, 0}, []api.Act{wrote(10, 1, 0, 0, 0), wrote(11, 1, 0, 1, 0), end}, api.OK})
	holdClean(t, c, 1, []byte{6, 1}, []byte{3, 0}, answer{[]byte{2, 0}, []api.Act{wrote(12, 1, 1, 0, 2), wrote(13, 1, 1, 1, 0), end}, api.OK})
	holdClean(t, c, 1, []byte{6, 1}, []byte{255, 0}, answer{[]byte{6, 0}, []api.Act{wrote(13, 1, 1, 1, 0), end}, api.OK})
	holdClean(t, c, 1, []byte{6, 0}, []byte{255, 1}, answer{[]byte{6, 0}, nil, api.OK})
	holdFill(t, c, 0, []byte{2, 0}, answer{[]byte{255, 1}, []api.Act{wrote(10, 1, 0, 0, 255), wrote(11, 1, 0, 1, 1), end}, api.OK})
	holdFill(t, c, 1, []byte{255, 0}, answer{[]byte{255, 1}, []api.Act{wrote(13, 1, 1, 1, 1), end}, api.OK})
	holdFill(t, c, 1, []byte{0, 1}, answer{[]byte{255, 1}, []api.Act{wrote(12, 1, 1, 0, 255), end}, api.OK})
	holdFill(t, c, 1, []byte{255, 1}, answer{[]byte{255, 1}, nil, api.OK})
}

// The numbers of the limits, of the errors and of the acts, which the document names.
func TestNumbers(t *testing.T) {
	if api.SectorBytes != size || api.MaxCache != room || api.PageTracks != 8 || api.MaxTracks != 16 || api.MaxPairs != 3 {
		t.Errorf("a sector has %d bytes, a cache %d writes, a page %d tracks, a volume %d, and there are %d pairs", api.SectorBytes, api.MaxCache, api.PageTracks, api.MaxTracks, api.MaxPairs)
	}
	for e, want := range map[api.Errno]int{api.OK: 0, api.ErrArg: 2, api.ErrBad: 8} {
		if int(e) != want {
			t.Errorf("the error %d, want %d", e, want)
		}
	}
	if api.ActWrite != 1 || api.ActFlush != 2 {
		t.Errorf("a write is of the kind %d, a flush %d", api.ActWrite, api.ActFlush)
	}
}

// P14.1: each config at the edges, each pair, marks and work of no tracks, of all, the same, and with nothing in common; each track.
func TestSets(t *testing.T) {
	for _, c := range configs() {
		for pair := range c.Pairs {
			for _, marks := range sets(c.Tracks) {
				for _, work := range sets(c.Tracks) {
					for track := range c.Tracks {
						holdMark(t, c, pair, marks, work, track, answerOf(toldMark(c, pair, marks, work, track)))
					}
					holdClean(t, c, pair, marks, work, answerOf(toldClean(c, pair, marks, work)))
				}
				holdFill(t, c, pair, marks, answerOf(toldFill(c, pair, marks)))
			}
		}
	}
}

// P14.1: all marks and all work of a page that has so many tracks, alone, or ahead of another page, or behind one.
func TestAllOfAPage(t *testing.T) {
	for _, c := range []api.Config{config(1, 1, 3), config(2, 3, 4), config(1, 8, 3), config(2, 16, 4)} {
		last := (c.Tracks - 1) / 8
		many := 1 << (c.Tracks - 8*last)
		for n := range last + 1 {
			for number := range many * many {
				marks, work := numbered(c.Tracks, 0x3c96), numbered(c.Tracks, 0x5aa5)
				marks[n], work[n] = byte(number%many), byte(number/many)
				holdAll(t, c, c.Pairs-1, marks, work, number*7%c.Tracks)
				holdAll(t, c, c.Pairs-1, marks, work, (number*7+3)%c.Tracks)
			}
			if t.Failed() {
				t.FailNow()
			}
		}
	}
}

// P14.1: all marks, all work and all tracks of volumes of few tracks.
func TestAllOfAVolume(t *testing.T) {
	for tracks := 1; tracks <= 6; tracks++ {
		c := config(1, tracks, 3)
		for number := range 1 << (2 * tracks) {
			marks, work := numbered(tracks, number), numbered(tracks, number>>tracks)
			for track := range tracks {
				holdAll(t, c, 0, marks, work, track)
			}
		}
	}
}

// P14.1, Mark: what its page gets, and that all else is as it was, told track by track, of what is answered and of what is written.
func TestMarkTracks(t *testing.T) {
	for _, c := range configs() {
		for _, marks := range sets(c.Tracks) {
			for _, work := range sets(c.Tracks) {
				for _, track := range tracksOf(c) {
					a := call{'M', c, 0, marks, work, track}.must(t)
					if has(t, c, marks, track) {
						if !bytes.Equal(a.out, marks) || len(a.l) != 0 {
							t.Errorf("marks %v have the track %d: %v", marks, track, a)
						}
						continue
					}
					for u := range c.Tracks {
						want := has(t, c, marks, u)
						if u/8 == track/8 {
							want = want && has(t, c, work, u) || u == track
						}
						if has(t, c, a.out, u) != want {
							t.Errorf("marks %v, work %v, the track %d is marked: %v; want the track %d %v", marks, work, track, a.out, u, want)
						}
					}
					holdWrites(t, c, 0, a, track/8)
				}
			}
		}
	}
}

// P14.1, Clean and Fill: what is answered is what both have, or all tracks; the pages that need it are written, and no others.
func TestCleanAndFillTracks(t *testing.T) {
	for _, c := range configs() {
		for _, marks := range sets(c.Tracks) {
			filled := call{'F', c, 0, marks, nil, 0}.must(t)
			if !bytes.Equal(filled.out, every(c.Tracks)) {
				t.Errorf("marks %v, filled: %v", marks, filled)
			}
			holdWrites(t, c, 0, filled, differing(marks, every(c.Tracks))...)
			for _, work := range sets(c.Tracks) {
				a := call{'C', c, 0, marks, work, 0}.must(t)
				for u := range c.Tracks {
					if has(t, c, a.out, u) != (has(t, c, marks, u) && has(t, c, work, u)) {
						t.Errorf("marks %v, cleaned by work %v: %v", marks, work, a)
					}
				}
				holdWrites(t, c, 0, a, differing(marks, a.out)...)
			}
		}
	}
}

func has(t *testing.T, c api.Config, s []byte, track int) bool {
	t.Helper()
	is, e := bits.Has(c.Tracks, s, track)
	if e != api.OK {
		t.Fatalf("Has(%d, %v, %d): error %d", c.Tracks, s, track, e)
	}
	return is
}

// differing are the pages in which two sets differ.
func differing(a, b []byte) []int {
	var l []int
	for n := range a {
		if a[n] != b[n] {
			l = append(l, n)
		}
	}
	return l
}

// holdWrites holds that the acts are the writes of these pages with what is answered, where chapter 7 says that they stand, and a flush if there is one.
func holdWrites(t *testing.T, c api.Config, pair int, a answer, written ...int) {
	t.Helper()
	var want []api.Act
	for _, n := range written {
		at, e := place.Page(c, pair, n)
		if e != api.OK {
			t.Fatalf("Page(%v, %d, %d): error %d", c, pair, n, e)
		}
		want = append(want, api.Act{Kind: api.ActWrite, At: at, Bytes: text(pair, n, a.out[n])})
	}
	if len(want) > 0 {
		want = append(want, api.Act{Kind: api.ActFlush})
	}
	if !slices.EqualFunc(a.l, want, sameAct) {
		t.Errorf("%v: %v: the acts %s; want %s", c, a.out, brief(a.l), brief(want))
	}
}

// P14.1: pairs that there are not, also with a track that there is not, or sets that may not be.
func TestWrongPairs(t *testing.T) {
	for _, c := range configs() {
		good := every(c.Tracks)
		for _, pair := range beside(c.Pairs) {
			refuseAll(t, c, pair, good, good, 0, api.ErrArg)
			refuseAll(t, c, pair, none(c.Tracks), good, c.Tracks-1, api.ErrArg)
			refuseAll(t, c, pair, good, none(c.Tracks), c.Tracks, api.ErrArg)
			refuseAll(t, c, pair, nil, nil, 0, api.ErrArg)
			refuseAll(t, c, pair, append(good, 0), good, -1, api.ErrArg)
		}
		for pair := range c.Pairs {
			holdAll(t, c, pair, good, good, 0)
			holdAll(t, c, pair, none(c.Tracks), good, c.Tracks-1)
		}
	}
}

// P14.1: tracks that there are not, whatever the sets are: with all tracks marked, too.
func TestWrongTracks(t *testing.T) {
	for _, c := range configs() {
		for _, track := range beside(c.Tracks) {
			for _, marks := range someSets(c.Tracks) {
				for _, work := range [][]byte{none(c.Tracks), every(c.Tracks), marks} {
					holdMark(t, c, 0, marks, work, track, answer{e: api.ErrArg})
					holdMark(t, c, c.Pairs-1, marks, work, track, answer{e: api.ErrArg})
				}
			}
		}
	}
}

// P14.1: marks and work that may not be, each alone, and both; a track that there is not is told behind them.
func TestWrongSets(t *testing.T) {
	for _, c := range configs() {
		n := c.Tracks
		for _, wrong := range wrongSets(n) {
			for _, good := range someSets(n) {
				for _, track := range append(beside(n), tracksOf(c)...) {
					refuseAll(t, c, 0, wrong, good, track, api.ErrBad)
					refuseAll(t, c, c.Pairs-1, wrong, wrong, track, api.ErrBad)
					holdMark(t, c, 0, good, wrong, track, answer{e: api.ErrBad})
				}
				holdClean(t, c, 0, good, wrong, answer{e: api.ErrBad})
			}
		}
	}
}

// P14.1: of marks and work what lies behind their ends, in their capacities, is none of them.
func TestWrongLengths(t *testing.T) {
	c := sample()
	long := []byte{255, 1, 0, 0}
	refuseAll(t, c, 0, long[:1], long[:2], 0, api.ErrBad)
	refuseAll(t, c, 0, long[:0], long[:2], 0, api.ErrBad)
	refuseAll(t, c, 0, long[:3], long[:2], 0, api.ErrBad)
	holdMark(t, c, 0, long[:2], long[:1], 0, answer{e: api.ErrBad})
	holdClean(t, c, 0, long[:2], long[:3], answer{e: api.ErrBad})
	holdAll(t, c, 0, long[:2], long[:2], 0)
}

// fields are those of a config, and numbers that they may not be in that of the examples.
func fields() map[string]struct {
	of    func(c *api.Config) *int
	wrong []int
} {
	return map[string]struct {
		of    func(c *api.Config) *int
		wrong []int
	}{
		"Pairs":  {func(c *api.Config) *int { return &c.Pairs }, []int{0, 1, 3, 4}}, // Most, or Area, is not for 1, or 3
		"Tracks": {func(c *api.Config) *int { return &c.Tracks }, []int{0, 17, 24}},
		"Area":   {func(c *api.Config) *int { return &c.Area }, []int{0, 3, 33}},
		"Most":   {func(c *api.Config) *int { return &c.Most }, []int{0, 3}},
		"Window": {func(c *api.Config) *int { return &c.Window }, []int{0, 5}},
		"Quiet":  {func(c *api.Config) *int { return &c.Quiet }, []int{0, 3, 65}},
	}
}

// P14.1: configs that may not be, each for one field's sake, whatever else is right or wrong: sets of as many tracks as it says, too.
func TestWrongConfigs(t *testing.T) {
	refuse := func(c api.Config) {
		t.Helper()
		handed := [][]byte{nil, of(9, 1, 8), {255, 1}, {255, 255}, {0}}
		if c.Tracks > 0 && c.Tracks <= 64 {
			handed = append(handed, none(c.Tracks), every(c.Tracks))
		}
		for _, marks := range handed {
			for _, pair := range []int{0, 1, 2, 3, -1, math.MaxInt, math.MinInt} {
				for _, track := range []int{0, 8, 9, 16, -1, math.MaxInt, math.MinInt} {
					refuseAll(t, c, pair, marks, of(9, 8), track, api.ErrBad)
					refuseAll(t, c, pair, marks, marks, track, api.ErrBad)
				}
			}
		}
	}
	for _, field := range fields() {
		for _, wrong := range append(field.wrong, append(far(), -1)...) {
			c := sample()
			*field.of(&c) = wrong
			if configMay(c) {
				continue
			}
			refuse(c)
		}
	}
	refuse(api.Config{})
}

// P14.1: each field of a config at its least and its most: it may be.
func TestConfigEdges(t *testing.T) {
	for _, c := range configs() {
		for most := 1; most <= c.Pairs; most++ {
			for _, window := range []int{1, 4} {
				for _, quiet := range []int{4, 64} {
					c.Most, c.Window, c.Quiet = most, window, quiet
					pair, n := c.Pairs-1, pages(c)-1
					want := none(c.Tracks)
					want[n] = 1 << ((c.Tracks - 1) % 8)
					holdMark(t, c, pair, none(c.Tracks), none(c.Tracks), c.Tracks-1, answer{want, []api.Act{anew(c, pair, n, want[n]), flush()}, api.OK})
					holdAll(t, c, pair, every(c.Tracks), none(c.Tracks), 0)
				}
			}
		}
	}
}

// fault turns what is asked, so that some calls tell an error, if no other one comes first.
type fault struct {
	e     api.Errno
	calls string
	turn  func(x *call)
}

// faults are in the order in which the chapter names their errors.
func faults() []fault {
	return []fault{
		{api.ErrBad, "MCF", func(x *call) { x.c.Quiet = 3 }},
		{api.ErrBad, "MCF", func(x *call) { x.c.Pairs = 4 }},
		{api.ErrBad, "MCF", func(x *call) { x.c.Tracks = 0 }},
		{api.ErrArg, "MCF", func(x *call) { x.pair = 2 }},
		{api.ErrBad, "MCF", func(x *call) { x.marks = []byte{255} }},
		{api.ErrBad, "MC", func(x *call) { x.work = []byte{1, 2} }},
		{api.ErrArg, "M", func(x *call) { x.t = 9 }},
	}
}

// P1, P14.1: of several errors the one named first is told, of all of them together; and beside one nothing.
func TestFirstError(t *testing.T) {
	all := faults()
	for which := range 1 << len(all) {
		for _, x := range callsOf(sample(), 1, of(9, 1, 8), of(9, 8), 2) {
			want := api.OK
			for i, f := range all {
				if which>>i&1 == 0 {
					continue
				}
				f.turn(&x)
				if want == api.OK && bytes.IndexByte([]byte(f.calls), x.name) >= 0 {
					want = f.e
				}
			}
			a := x.does()
			if a.e != want || want != api.OK && (len(a.out) != 0 || len(a.l) != 0) {
				t.Errorf("the faults %b: %v: %v; want the error %d", which, x, a, want)
			}
			x.hold(t, x.told())
		}
	}
}

const behind = "----"

// roomy is b in other memory, with more behind its end.
func roomy(b []byte) []byte { return append(bytes.Clone(b), behind...)[:len(b)] }

// isAsHanded tells whether b is as roomy made it.
func isAsHanded(b, want []byte) bool {
	return bytes.Equal(b, want) && string(b[len(b):len(b)+len(behind)]) == behind
}

// spoil turns each byte, also those in the capacities, and each act.
func (a answer) spoil() {
	spoil(a.out)
	l := a.l[:cap(a.l)]
	for i := range l {
		spoil(l[i].Bytes)
		l[i] = api.Act{Kind: 99, At: -7}
	}
}

func spoil(b []byte) {
	b = b[:cap(b)]
	for i := range b {
		b[i] += 99
	}
}

// memoryCalls are such as write no page, one, and two, and such as tell an error.
func memoryCalls() []call {
	var l []call
	for _, c := range []api.Config{sample(), config(1, 1, 3), config(3, 16, 5), {}} {
		n := max(c.Tracks, 1)
		for _, pair := range []int{0, max(c.Pairs-1, 0), c.Pairs} {
			for _, marks := range append(someSets(n), append(every(n), 0)) {
				for _, work := range append(someSets(n), []byte{}) {
					for _, track := range []int{0, n - 1, n} {
						l = append(l, callsOf(c, pair, marks, work, track)...)
					}
				}
			}
		}
	}
	return l
}

// P14.2: what is handed in is as it was, also behind its end; also where an error is told.
func TestOnlyRead(t *testing.T) {
	for _, x := range memoryCalls() {
		marks, work := x.marks, x.work
		x.marks, x.work = roomy(marks), roomy(work)
		x.does()
		if !isAsHanded(x.marks, marks) || !isAsHanded(x.work, work) {
			t.Fatalf("%v: what was handed in is another one: it was %v and %v", x, marks, work)
		}
	}
}

// P14.2: a change of what is answered changes nothing that was handed in, nor what is answered anew; also where nothing is written.
func TestNewMemory(t *testing.T) {
	idle := 0
	for _, x := range memoryCalls() {
		marks, work, want := x.marks, x.work, x.told()
		x.marks, x.work = roomy(marks), roomy(work)
		one, two := x.does(), x.does()
		if one.e == api.OK && len(one.l) == 0 {
			idle++
		}
		one.spoil()
		if !two.isSame(want) || !isAsHanded(x.marks, marks) || !isAsHanded(x.work, work) {
			t.Fatalf("%v: what is answered shares memory", x)
		}
		spoil(x.marks)
		spoil(x.work)
		if !two.isSame(want) {
			t.Fatalf("%v: what is answered shares memory with what was handed in", x)
		}
	}
	if idle < 100 {
		t.Errorf("only %d calls wrote nothing", idle)
	}
}

// P14.2: the same where marks and work are one list.
func TestOneListForBoth(t *testing.T) {
	for _, c := range few() {
		for _, s := range someSets(c.Tracks) {
			for _, track := range tracksOf(c) {
				one := roomy(s)
				for _, x := range callsOf(c, 0, one, one, track) {
					a := x.must(t)
					x.hold(t, call{x.name, c, 0, s, s, track}.told())
					a.spoil()
					if !isAsHanded(one, s) {
						t.Fatalf("%v: what is answered shares memory", x)
					}
				}
			}
		}
	}
}

// P14.2: no two lists of one answer share memory: the marks, and each write's bytes.
func TestOwnMemory(t *testing.T) {
	for _, x := range memoryCalls() {
		want := x.told()
		for which := range len(want.l) + 1 {
			a := x.does()
			if which == len(want.l) {
				spoil(a.out)
			} else {
				spoil(a.l[which].Bytes)
			}
			for i, act := range a.l {
				if i != which && !sameAct(act, want.l[i]) {
					t.Fatalf("%v: the act %d shares memory with the list %d", x, i, which)
				}
			}
			if which < len(want.l) && !bytes.Equal(a.out, want.out) {
				t.Fatalf("%v: the marks share memory with the act %d", x, which)
			}
		}
	}
}

// P14.3: whatever way the disk says the marks: behind all acts it says what is answered, and all other pairs' pages say what they said.
func TestBehindAllActs(t *testing.T) {
	for _, c := range few() {
		for pair := range c.Pairs {
			for _, marks := range someSets(c.Tracks) {
				for _, d := range disksOf(c, pair, marks) {
					holdSays(t, c, d, pair, marks)
					for _, x := range callsWith(c, pair, marks) {
						a := x.must(t)
						for _, writes := range []int{0, 1, room - 2, room - 1, room} {
							now := done(t, crowded(d, writes), a.l...)
							if len(a.l) > 0 && len(now.Cache) > 0 {
								t.Errorf("%v: writes wait behind all acts", x)
							}
							holdSays(t, c, now, pair, a.out)
						}
					}
				}
			}
		}
	}
}

// callsWith are all three, with work and tracks at the edges.
func callsWith(c api.Config, pair int, marks []byte) []call {
	l := []call{{'F', c, pair, marks, nil, 0}}
	for _, work := range someSets(c.Tracks) {
		l = append(l, call{'C', c, pair, marks, work, 0})
		for _, track := range tracksOf(c) {
			l = append(l, call{'M', c, pair, marks, work, track})
		}
	}
	return l
}

// holdSays holds that the disk says these marks of the pair, and of the others what they had.
func holdSays(t *testing.T, c api.Config, d api.Disk, pair int, marks []byte) {
	t.Helper()
	for p := range c.Pairs {
		want := otherMarks(c, p)
		if p == pair {
			want = marks
		}
		if got := mustRead(t, c, d, p); !bytes.Equal(got, want) {
			t.Errorf("the disk says %v of the pair %d; want %v", got, p, want)
		}
	}
}

// P14.3: the same where the disk says the marks by writes in its cache.
func TestBehindCachedMarks(t *testing.T) {
	for _, c := range few() {
		for _, marks := range someSets(c.Tracks) {
			d := saying(c, 0, none(c.Tracks))
			for n, bits := range marks {
				act := anew(c, 0, n, bits)
				d.Cache = append(d.Cache, api.Pend{At: act.At, Bytes: act.Bytes})
			}
			for _, x := range callsWith(c, 0, marks) {
				a := x.must(t)
				holdSays(t, c, done(t, d, a.l...), 0, a.out)
			}
		}
	}
}

// left is what each page says behind a crash by these fates, where that many acts were done.
func left(c api.Config, marks []byte, a answer, acts int, fates []uint8) []byte {
	s := bytes.Clone(marks)
	if acts == len(a.l) {
		return a.out
	}
	for i, act := range a.l[:acts] {
		n := (act.At - sectorOf(c, 0, 0)) % pages(c)
		switch fates[i] {
		case api.FateDone:
			s[n] = a.out[n]
		case api.FateBad:
			s[n] = every(c.Tracks)[n]
		}
	}
	return s
}

// holdPromise holds what the chapter promises behind a crash: each page says what it said, what is answered, or all its tracks; and each track that both have is there.
func holdPromise(t *testing.T, x call, a answer, says []byte) {
	t.Helper()
	for n, bits := range says {
		if bits != x.marks[n] && bits != a.out[n] && bits != every(x.c.Tracks)[n] {
			t.Errorf("%v: behind a crash the page %d says %d", x, n, bits)
		}
	}
	for u := range x.c.Tracks {
		both := has(t, x.c, x.marks, u) && (x.name == 'F' || has(t, x.c, x.work, u))
		if both && !has(t, x.c, says, u) {
			t.Errorf("%v: behind a crash the track %d is not marked: %v", x, u, says)
		}
	}
}

// P14.3: at each number of acts done, and with every fate.
func TestCrash(t *testing.T) {
	for _, c := range few() {
		for _, pair := range []int{0, c.Pairs - 1} {
			for _, marks := range someSets(c.Tracks) {
				for _, d := range disksOf(c, pair, marks) {
					for _, x := range callsWith(c, pair, marks) {
						holdCrashes(t, x, d)
					}
				}
			}
		}
	}
}

func holdCrashes(t *testing.T, x call, d api.Disk) {
	t.Helper()
	a := x.must(t)
	for acts := range len(a.l) + 1 {
		now := done(t, d, a.l[:acts]...)
		eachFates(len(now.Cache), func(fates []uint8) {
			behind := crashed(t, now, fates...)
			says := mustRead(t, x.c, behind, x.pair)
			if want := left(x.c, x.marks, a, acts, fates); !bytes.Equal(says, want) {
				t.Errorf("%v: %d acts, the fates %v: the marks are %v, want %v", x, acts, fates, says, want)
			}
			holdPromise(t, x, a, says)
			if acts == len(a.l) && x.name == 'M' && !has(t, x.c, says, x.t) {
				t.Errorf("%v: behind all acts the track is not marked", x)
			}
			holdSays(t, x.c, behind, x.pair, says)
		})
	}
	if t.Failed() {
		t.FailNow()
	}
}

// P14.3: the same where other writes wait ahead of these acts, also so many that the cache is flushed in their midst.
func TestCrashAmongOthers(t *testing.T) {
	for _, c := range few() {
		pair := c.Pairs - 1
		for _, marks := range someSets(c.Tracks) {
			for _, x := range callsWith(c, pair, marks) {
				a := x.must(t)
				for _, ahead := range []int{1, 30, room - 2, room - 1, room} {
					d := crowded(saying(c, pair, marks), ahead)
					for acts := range len(a.l) + 1 {
						now := done(t, d, a.l[:acts]...)
						for fate := range uint8(3) {
							says := mustRead(t, c, crashed(t, now, bytes.Repeat([]byte{fate}, room)...), pair)
							holdPromise(t, x, a, says)
							if acts == len(a.l) && !bytes.Equal(says, a.out) {
								t.Errorf("%v: behind all acts the disk says %v", x, says)
							}
						}
					}
				}
			}
		}
	}
}

// P14.3: a crash in the midst, and another call with what the disk says then: it goes on from there.
func TestCrashTwice(t *testing.T) {
	c := sample()
	for _, marks := range someSets(c.Tracks) {
		for _, x := range callsWith(c, 1, marks) {
			a := x.must(t)
			for acts := range len(a.l) + 1 {
				now := done(t, saying(c, 1, marks), a.l[:acts]...)
				eachFates(len(now.Cache), func(fates []uint8) {
					d := crashed(t, now, fates...)
					again := x
					again.marks = mustRead(t, c, d, 1)
					holdCrashes(t, again, d)
					holdSays(t, c, done(t, d, again.must(t).l...), 1, again.told().out)
				})
			}
		}
	}
}

// run is a site's disk, what it knows of each pair's marks and work, and the tracks of each pair that have to be marked.
type run struct {
	c           api.Config
	d           api.Disk
	marks, work [][]byte
	must        [][]byte
}

// does does the call's acts, or some of them, and then the power goes.
func (x *run) does(t *testing.T, r *rand.Rand, k call) {
	t.Helper()
	k.c, k.marks, k.work = x.c, x.marks[k.pair], x.work[k.pair]
	a := k.must(t)
	if r.IntN(4) > 0 {
		x.d = done(t, x.d, a.l...)
		x.marks[k.pair] = a.out
		switch k.name {
		case 'M': // the track is written now
			x.work[k.pair][k.t/8] |= 1 << (k.t % 8)
			x.must[k.pair][k.t/8] |= 1 << (k.t % 8)
		case 'F': // all of it is to be copied
			x.work[k.pair], x.must[k.pair] = every(x.c.Tracks), every(x.c.Tracks)
		}
		return
	}
	now := done(t, x.d, a.l[:r.IntN(len(a.l)+1)]...)
	fates := make([]uint8, r.IntN(len(now.Cache)+2))
	for i := range fates {
		fates[i] = uint8(r.Uint32())
	}
	x.d = crashed(t, now, fates...)
	for pair := range x.c.Pairs {
		x.marks[pair] = mustRead(t, x.c, x.d, pair)
		x.work[pair] = bytes.Clone(x.marks[pair])
	}
}

// P14.3: over long runs of writes to tracks that are marked ahead, of tracks that are copied, of marks that are cleaned and filled, and of crashes: the disk says what is known, and no track that was written and not copied since is without a mark.
func TestLongRuns(t *testing.T) {
	r := seeded(1)
	for _, c := range configs() {
		x := run{c: c, d: filled(c)}
		for range c.Pairs {
			x.marks, x.work, x.must = append(x.marks, none(c.Tracks)), append(x.work, none(c.Tracks)), append(x.must, none(c.Tracks))
		}
		for range 400 {
			pair, track := r.IntN(c.Pairs), r.IntN(c.Tracks)
			switch k := r.IntN(20); {
			case k < 10:
				x.does(t, r, call{name: 'M', pair: pair, t: track})
			case k < 15: // it is copied
				x.work[pair][track/8] &^= 1 << (track % 8)
				x.must[pair][track/8] &^= 1 << (track % 8)
			case k < 19:
				x.does(t, r, call{name: 'C', pair: pair})
			default:
				x.does(t, r, call{name: 'F', pair: pair})
			}
			x.hold(t)
		}
	}
}

func (x *run) hold(t *testing.T) {
	t.Helper()
	for pair := range x.c.Pairs {
		says := mustRead(t, x.c, x.d, pair)
		if !bytes.Equal(says, x.marks[pair]) {
			t.Fatalf("%v: the disk says %v of the pair %d, and %v is known", x.c, says, pair, x.marks[pair])
		}
		for n, bits := range x.must[pair] {
			if bits&^says[n] != 0 {
				t.Fatalf("%v: the disk says %v of the pair %d, and %v has to be marked", x.c, says, pair, x.must[pair])
			}
		}
	}
}

// P1: each call ends, and none panics, whatever comes; the answers are those of the chapter's words.
func TestWhatever(t *testing.T) {
	r := seeded(2)
	cs, odd := configs(), far()
	for range 20000 {
		c := cs[r.IntN(len(cs))]
		pair, track := r.IntN(c.Pairs), r.IntN(c.Tracks)
		marks, work := numbered(c.Tracks, r.IntN(1<<16)), numbered(c.Tracks, r.IntN(1<<16))
		wrong := wrongSets(c.Tracks)
		switch r.IntN(12) {
		case 0:
			pair = odd[r.IntN(len(odd))]
		case 1:
			track = odd[r.IntN(len(odd))]
		case 2:
			pair, track = r.IntN(7)-2, r.IntN(24)-4
		case 3:
			marks = wrong[r.IntN(len(wrong))]
		case 4:
			work = wrong[r.IntN(len(wrong))]
		case 5:
			c = cs[r.IntN(len(cs))]
		case 6:
			c.Tracks, c.Area = r.IntN(20)-1, r.IntN(36)
		case 7:
			marks, work = anyBytes(r), anyBytes(r)
		case 8:
			c = api.Config{Pairs: odd[r.IntN(len(odd))], Tracks: odd[r.IntN(len(odd))], Area: r.IntN(40), Most: 1, Window: 1, Quiet: 4}
		}
		holdAll(t, c, pair, marks, work, track)
	}
}

func anyBytes(r *rand.Rand) []byte {
	b := make([]byte, r.IntN(4))
	for i := range b {
		b[i] = byte(r.Uint32())
	}
	return b
}

// P1: nothing is kept from call to call, whoever calls between.
func TestNothingIsKept(t *testing.T) {
	var calls sync.WaitGroup
	for i, c := range []api.Config{sample(), config(1, 1, 3), config(3, 16, 32), sample()} {
		calls.Add(1)
		go func() {
			defer calls.Done()
			for k := range 300 {
				marks, work := numbered(c.Tracks, 7919*k+i), numbered(c.Tracks, 104729*k)
				holdAll(t, c, k%c.Pairs, marks, work, k%c.Tracks)
				refuseAll(t, c, c.Pairs, marks, work, k%c.Tracks, api.ErrArg)
				holdMark(t, c, 0, marks, work, c.Tracks, answer{e: api.ErrArg})
			}
		}()
	}
	calls.Wait()
}

// The calls have the signatures that the chapter lists.
func TestSignatures(t *testing.T) {
	var (
		_ func(c api.Config, pair int, marks, work []byte, t int) ([]byte, []api.Act, api.Errno) = diff.Mark
		_ func(c api.Config, pair int, marks, work []byte) ([]byte, []api.Act, api.Errno)        = diff.Clean
		_ func(c api.Config, pair int, marks []byte) ([]byte, []api.Act, api.Errno)              = diff.Fill
	)
}

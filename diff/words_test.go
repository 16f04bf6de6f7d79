package diff_test

import (
	"bytes"
	"fmt"
	"math"
	"math/rand/v2"
	"slices"
	"strings"
	"testing"

	"catamaran/api"
	"catamaran/diff"
	"catamaran/disk"
	"catamaran/page"
)

const (
	size = 32 // bytes of a sector
	room = 64 // writes of a cache
)

func seeded(seed uint64) *rand.Rand { return rand.New(rand.NewPCG(seed, 14)) }

// config is one that may be, of whose numbers only those that place something are chosen.
func config(pairs, tracks, area int) api.Config {
	return api.Config{Pairs: pairs, Tracks: tracks, Area: area, Most: pairs, Window: 2, Quiet: 8}
}

// sample is the config of chapter 7's examples: its pages stand in the sectors 10 and 11, and 12 and 13.
func sample() api.Config { return config(2, 9, 4) }

// configs are those at the edges: of one page and of two, the last one of which has from 1 track to all 8; the least and the greatest that there may be.
func configs() []api.Config {
	var l []api.Config
	for pairs := 1; pairs <= 3; pairs++ {
		for _, tracks := range []int{1, 2, 7, 8, 9, 10, 15, 16} {
			l = append(l, config(pairs, tracks, pairs+2), config(pairs, tracks, 32))
		}
	}
	return append(l, sample(),
		api.Config{Pairs: 1, Tracks: 1, Area: 3, Most: 1, Window: 1, Quiet: 4},
		api.Config{Pairs: 3, Tracks: 16, Area: 32, Most: 3, Window: 4, Quiet: 64})
}

// few are some of them.
func few() []api.Config {
	return []api.Config{sample(), config(1, 1, 3), config(2, 7, 4), config(1, 8, 32), config(2, 15, 4), config(3, 16, 5)}
}

// pages is how many a pair has, by the words of chapter 7.
func pages(c api.Config) int { return (c.Tracks + 7) / 8 }

// sectorOf is the sector of the page n of a pair, by the words of chapter 7.
func sectorOf(c api.Config, pair, n int) int { return 2 + 2*c.Area + pair*pages(c) + n }

// many is how many sectors the disk of a config has, by the words of chapter 7.
func many(c api.Config) int { return sectorOf(c, c.Pairs, 0) + c.Pairs*c.Tracks*4 }

// configMay tells whether a config may be, by the words of chapter 7.
func configMay(c api.Config) bool {
	within := func(n, least, most int) bool { return n >= least && n <= most }
	return within(c.Pairs, 1, 3) && within(c.Tracks, 1, 16) && within(c.Area, c.Pairs+2, 32) &&
		within(c.Most, 1, c.Pairs) && within(c.Window, 1, 4) && within(c.Quiet, 4, 64)
}

// setOf is the set of those of so many tracks that are in, by the words of chapter 3.
func setOf(in []bool) []byte {
	s := make([]byte, (len(in)+7)/8)
	for t, is := range in {
		if is {
			s[t/8] += []byte{1, 2, 4, 8, 16, 32, 64, 128}[t%8]
		}
	}
	return s
}

// of is the set of these tracks of n.
func of(n int, tracks ...int) []byte {
	in := make([]bool, n)
	for _, t := range tracks {
		in[t] = true
	}
	return setOf(in)
}

// inOf tells of each of n tracks whether a set has it; false, if s may not be one, by the words of chapter 3.
func inOf(n int, s []byte) ([]bool, bool) {
	if len(s) != (n+7)/8 {
		return nil, false
	}
	in := make([]bool, n)
	for t := range in {
		in[t] = s[t/8]/[]byte{1, 2, 4, 8, 16, 32, 64, 128}[t%8]%2 == 1
	}
	return in, bytes.Equal(setOf(in), s)
}

// numbered is the set of n tracks that a number has, by its bits.
func numbered(n, number int) []byte {
	in := make([]bool, n)
	for t := range in {
		in[t] = number>>t&1 == 1
	}
	return setOf(in)
}

func none(n int) []byte { return numbered(n, 0) }

func every(n int) []byte { return numbered(n, -1) }

// sets are such of n tracks as stand at the edges, and some more, two of each of which have nothing in common.
func sets(n int) [][]byte {
	l := [][]byte{none(n), every(n)}
	for _, number := range []int{1, 1 << (n - 1), 0x80, 0x100, 0xff, 0xff00, 0x0f0f, 0x5555, 0x7e81, 0x3c96} {
		l = append(l, numbered(n, number), numbered(n, ^number))
	}
	return distinct(l)
}

// someSets are a few of n tracks: none, all, and some in each page.
func someSets(n int) [][]byte {
	return distinct([][]byte{none(n), every(n), numbered(n, 0x0f36), numbered(n, ^0x0f36), numbered(n, 0x0101), numbered(n, 0xa5ff)})
}

func distinct(l [][]byte) [][]byte {
	slices.SortFunc(l, bytes.Compare)
	return slices.CompactFunc(l, bytes.Equal)
}

// wrongSets are such as may be no set of n tracks: of too few pages, of too many, and with tracks of which there are none.
func wrongSets(n int) [][]byte {
	l := [][]byte{nil, {}, make([]byte, (n+7)/8-1), make([]byte, (n+7)/8+1), append(every(n), 0), append(none(n), 1), make([]byte, 16), make([]byte, 4096)}
	for t := n; t < (n+7)/8*8; t++ {
		for _, s := range [][]byte{none(n), every(n)} {
			s[t/8] |= 1 << (t % 8)
			l = append(l, s)
		}
	}
	return l
}

// text is that of a page, by the words of chapter 13.
func text(pair, n int, bits byte) []byte {
	return append([]byte{1, byte(pair), byte(n), bits}, make([]byte, size-4)...)
}

func flush() api.Act { return api.Act{Kind: 2} }

// anew is the act that writes a page anew.
func anew(c api.Config, pair, n int, bits byte) api.Act {
	return api.Act{Kind: 1, At: sectorOf(c, pair, n), Bytes: text(pair, n, bits)}
}

// turned is the answer by which the pages that which tells are written, in order, with what they have in a set; all others have what they had.
func turned(c api.Config, pair int, marks, with []byte, which func(n int) bool) ([]byte, []api.Act) {
	out := bytes.Clone(marks)
	var l []api.Act
	for n := range pages(c) {
		if which(n) {
			out[n] = with[n]
			l = append(l, anew(c, pair, n, with[n]))
		}
	}
	if len(l) > 0 {
		l = append(l, flush())
	}
	return out, l
}

// refused is the error of a config, a pair and sets, by the chapter's words.
func refused(c api.Config, pair int, sets ...[]byte) api.Errno {
	switch {
	case !configMay(c):
		return api.ErrBad
	case pair < 0 || pair >= c.Pairs:
		return api.ErrArg
	}
	for _, s := range sets {
		if _, may := inOf(c.Tracks, s); !may {
			return api.ErrBad
		}
	}
	return api.OK
}

// toldMark is what Mark has to answer, by the chapter's words, track by track.
func toldMark(c api.Config, pair int, marks, work []byte, t int) ([]byte, []api.Act, api.Errno) {
	if e := refused(c, pair, marks, work); e != api.OK {
		return nil, nil, e
	}
	if t < 0 || t >= c.Tracks {
		return nil, nil, api.ErrArg
	}
	was, _ := inOf(c.Tracks, marks)
	differs, _ := inOf(c.Tracks, work)
	with := make([]bool, c.Tracks)
	for u := range with {
		with[u] = was[u] && differs[u] || u == t
	}
	out, l := turned(c, pair, marks, setOf(with), func(n int) bool { return !was[t] && n == t/8 })
	return out, l, api.OK
}

// toldClean is what Clean has to answer.
func toldClean(c api.Config, pair int, marks, work []byte) ([]byte, []api.Act, api.Errno) {
	if e := refused(c, pair, marks, work); e != api.OK {
		return nil, nil, e
	}
	was, _ := inOf(c.Tracks, marks)
	differs, _ := inOf(c.Tracks, work)
	both, needs := make([]bool, c.Tracks), make([]bool, pages(c))
	for u := range both {
		both[u] = was[u] && differs[u]
		needs[u/8] = needs[u/8] || was[u] && !differs[u]
	}
	out, l := turned(c, pair, marks, setOf(both), func(n int) bool { return needs[n] })
	return out, l, api.OK
}

// toldFill is what Fill has to answer.
func toldFill(c api.Config, pair int, marks []byte) ([]byte, []api.Act, api.Errno) {
	if e := refused(c, pair, marks); e != api.OK {
		return nil, nil, e
	}
	was, _ := inOf(c.Tracks, marks)
	needs := make([]bool, pages(c))
	for u, is := range was {
		needs[u/8] = needs[u/8] || !is
	}
	out, l := turned(c, pair, marks, every(c.Tracks), func(n int) bool { return needs[n] })
	return out, l, api.OK
}

// sameAct tells whether two acts are the same, and have nothing that acts of the disk have not.
func sameAct(a, b api.Act) bool {
	for _, x := range []api.Act{a, b} {
		if x.Me != 0 || x.You != 0 || x.Pair != 0 || !isNoMsg(x.Msg) || !isNoReply(x.Reply) {
			return false
		}
	}
	return a.Kind == b.Kind && a.At == b.At && bytes.Equal(a.Bytes, b.Bytes)
}

func isNoMsg(m api.Msg) bool {
	return m.Kind == 0 && m.Pair == 0 && !m.Has && m.Rec == api.Rec{} && m.Op == 0 && m.Born == 0 && m.Epoch == 0 &&
		m.Track == 0 && m.N == 0 && m.Code == 0 && len(m.Marks) == 0 && len(m.Bytes) == 0
}

func isNoReply(r api.Reply) bool {
	return r.Ask == 0 && r.Code == 0 && r.State == 0 && len(r.Bytes) == 0
}

// brief tells acts in short.
func brief(l []api.Act) string {
	var parts []string
	for _, a := range l {
		parts = append(parts, fmt.Sprintf("kind %d at %d %v", a.Kind, a.At, a.Bytes[:min(len(a.Bytes), 5)]))
	}
	return "[" + strings.Join(parts, "; ") + "]"
}

// answer is what a call answers.
type answer struct {
	out []byte
	l   []api.Act
	e   api.Errno
}

func (a answer) String() string {
	return fmt.Sprintf("%v, %s, error %d", a.out, brief(a.l), a.e)
}

func (a answer) isSame(b answer) bool {
	return bytes.Equal(a.out, b.out) && slices.EqualFunc(a.l, b.l, sameAct) && a.e == b.e
}

func answerOf(out []byte, l []api.Act, e api.Errno) answer { return answer{out, l, e} }

// call is one of the three, with all that it is handed.
type call struct {
	name        byte // M, C or F
	c           api.Config
	pair        int
	marks, work []byte
	t           int
}

func (x call) String() string {
	return fmt.Sprintf("%c(%v, %d, marks %v, work %v, track %d)", x.name, x.c, x.pair, x.marks, x.work, x.t)
}

// does calls the program.
func (x call) does() answer {
	switch x.name {
	case 'M':
		return answerOf(diff.Mark(x.c, x.pair, x.marks, x.work, x.t))
	case 'C':
		return answerOf(diff.Clean(x.c, x.pair, x.marks, x.work))
	}
	return answerOf(diff.Fill(x.c, x.pair, x.marks))
}

// told is what it has to answer, by the chapter's words.
func (x call) told() answer {
	switch x.name {
	case 'M':
		return answerOf(toldMark(x.c, x.pair, x.marks, x.work, x.t))
	case 'C':
		return answerOf(toldClean(x.c, x.pair, x.marks, x.work))
	}
	return answerOf(toldFill(x.c, x.pair, x.marks))
}

// hold holds that it answers that.
func (x call) hold(t *testing.T, want answer) {
	t.Helper()
	if a := x.does(); !a.isSame(want) {
		t.Errorf("%v: %v; want %v", x, a, want)
	}
}

// must is what is answered, where there may be no error.
func (x call) must(t *testing.T) answer {
	t.Helper()
	a := x.does()
	if a.e != api.OK {
		t.Fatalf("%v: error %d", x, a.e)
	}
	return a
}

func callsOf(c api.Config, pair int, marks, work []byte, t int) []call {
	return []call{{'M', c, pair, marks, work, t}, {'C', c, pair, marks, work, 0}, {'F', c, pair, marks, nil, 0}}
}

// holdAll holds that all calls answer what the chapter's words say, whatever is asked.
func holdAll(t *testing.T, c api.Config, pair int, marks, work []byte, track int) {
	t.Helper()
	for _, x := range callsOf(c, pair, marks, work, track) {
		x.hold(t, x.told())
	}
}

// refuseAll holds that all calls tell this error, and nothing beside.
func refuseAll(t *testing.T, c api.Config, pair int, marks, work []byte, track int, want api.Errno) {
	t.Helper()
	for _, x := range callsOf(c, pair, marks, work, track) {
		x.hold(t, answer{e: want})
	}
}

func holdMark(t *testing.T, c api.Config, pair int, marks, work []byte, track int, want answer) {
	t.Helper()
	call{'M', c, pair, marks, work, track}.hold(t, want)
}

func holdClean(t *testing.T, c api.Config, pair int, marks, work []byte, want answer) {
	t.Helper()
	call{'C', c, pair, marks, work, 0}.hold(t, want)
}

func holdFill(t *testing.T, c api.Config, pair int, marks []byte, want answer) {
	t.Helper()
	call{'F', c, pair, marks, nil, 0}.hold(t, want)
}

// far are numbers that are far from any that may be, of which many are near in less bits, or where a sum or a product wraps round.
func far() []int {
	return []int{
		-255, -256, -257, 254, 255, 256, 257, 258, 65535, 65536, 65537, 1<<32 - 1, 1 << 32, 1<<32 + 1, -1 << 32, 1 - 1<<32,
		math.MinInt32, math.MaxInt32, math.MinInt, math.MinInt + 1, math.MinInt / 2, math.MaxInt/2 + 1, math.MaxInt - 1, math.MaxInt,
	}
}

// beside are numbers that are none of so many, from 0 on.
func beside(many int) []int {
	return append(far(), -2, -1, -7, -8, -9, -many, many, many+1, many+2, many+8, many+16)
}

// tracksOf are the tracks of a config at the edges.
func tracksOf(c api.Config) []int {
	var l []int
	for _, t := range []int{0, 1, 6, 7, 8, 9, 14, 15, c.Tracks - 1} {
		if t >= 0 && t < c.Tracks {
			l = append(l, t)
		}
	}
	slices.Sort(l)
	return slices.Compact(l)
}

// filled is a disk that fits, whose pages have noughts. Its other sectors are no page's: who takes one for a page's has all tracks.
func filled(c api.Config) api.Disk {
	d := api.Disk{Sectors: make([]api.Sector, many(c))}
	for i := range d.Sectors {
		d.Sectors[i].Bytes = bytes.Repeat([]byte{255}, size)
		if i >= sectorOf(c, 0, 0) && i < sectorOf(c, c.Pairs, 0) {
			clear(d.Sectors[i].Bytes)
		}
	}
	return d
}

// laid is d with that in the sector of a page; nil is a Bad one.
func laid(d api.Disk, c api.Config, pair, n int, t []byte) api.Disk {
	d = disk.Twin(d)
	at := sectorOf(c, pair, n)
	d.Sectors[at] = api.Sector{Bytes: make([]byte, size), Bad: t == nil}
	copy(d.Sectors[at].Bytes, t)
	return d
}

// otherMarks are those that the pair has on the disks, if it is none that is tried.
func otherMarks(c api.Config, pair int) []byte { return numbered(c.Tracks, 0x3a5c<<pair) }

// saying is a disk whose pages say the marks of a pair, by their texts; those of the other ones say otherMarks.
func saying(c api.Config, pair int, marks []byte) api.Disk {
	d := filled(c)
	for p := range c.Pairs {
		s := otherMarks(c, p)
		if p == pair {
			s = marks
		}
		for n, bits := range s {
			d = laid(d, c, p, n, text(p, n, bits))
		}
	}
	return d
}

// disksOf are disks that say the marks of a pair, in all ways in which a page may: also by noughts, by Bad sectors, and by something else.
func disksOf(c api.Config, pair int, marks []byte) []api.Disk {
	d := saying(c, pair, marks)
	l := []api.Disk{d}
	for n, bits := range marks {
		more := len(l)
		for _, d := range l[:more] {
			if bits == 0 {
				l = append(l, laid(d, c, pair, n, make([]byte, size)))
			}
			if bits == every(c.Tracks)[n] {
				l = append(l, laid(d, c, pair, n, nil), laid(d, c, pair, n, bytes.Repeat([]byte{7}, size)))
			}
		}
	}
	return l
}

// crowded is d with so many writes in the cache, those that are new ones none of the pages.
func crowded(d api.Disk, many int) api.Disk {
	d = disk.Twin(d)
	for i := len(d.Cache); i < many; i++ {
		at := i % 8
		if i%3 == 0 {
			at = len(d.Sectors) - 1 - i%4
		}
		d.Cache = append(d.Cache, api.Pend{At: at, Bytes: text(i%3, i%2, byte(i))})
	}
	return d
}

// done is d behind these acts, one by one. As a site does them, a full cache is flushed ahead of a write.
func done(t *testing.T, d api.Disk, l ...api.Act) api.Disk {
	t.Helper()
	for _, a := range l {
		e := api.ErrNone
		switch {
		case a.Kind == api.ActWrite:
			if len(d.Cache) == room {
				d = flushed(t, d)
			}
			d, e = disk.Write(d, a.At, a.Bytes)
		case a.Kind == api.ActFlush:
			d, e = disk.Flush(d)
		}
		if e != api.OK {
			t.Fatalf("an act of the kind %d at %d: error %d", a.Kind, a.At, e)
		}
	}
	return d
}

func flushed(t *testing.T, d api.Disk) api.Disk {
	t.Helper()
	d, e := disk.Flush(d)
	if e != api.OK {
		t.Fatalf("Flush: error %d", e)
	}
	return d
}

func crashed(t *testing.T, d api.Disk, fates ...uint8) api.Disk {
	t.Helper()
	d, e := disk.Crash(d, fates)
	if e != api.OK {
		t.Fatalf("Crash: error %d", e)
	}
	return d
}

func mustRead(t *testing.T, c api.Config, d api.Disk, pair int) []byte {
	t.Helper()
	s, e := page.Read(c, d, pair)
	if e != api.OK {
		t.Fatalf("Read(%v, %d): error %d", c, pair, e)
	}
	return s
}

// eachFates hands on all fates of so many writes.
func eachFates(many int, f func(fates []uint8)) {
	all := 1
	for range many {
		all *= 3
	}
	for n := range all {
		fates := make([]uint8, many)
		for i := range fates {
			fates[i] = uint8(n % 3)
			n /= 3
		}
		f(fates)
	}
}

package meta_test

import (
	"bytes"
	"encoding/binary"
	"fmt"
	"math"
	"math/rand/v2"
	"reflect"
	"slices"
	"testing"

	"catamaran/api"
	"catamaran/disk"
	"catamaran/meta"
)

const (
	size    = 32 // bytes of a sector
	part    = 24 // bytes of a part
	head    = 12 // bytes of a note's row
	room    = 64 // writes of a cache
	top     = 1<<32 - 1
	lastOne = 65535 // the most turns
)

func seeded(seed uint64) *rand.Rand { return rand.New(rand.NewPCG(seed, 12)) }

// config is one that may be, of whose numbers only those that place something are chosen.
func config(pairs, tracks, area int) api.Config {
	return api.Config{Pairs: pairs, Tracks: tracks, Area: area, Most: pairs, Window: 2, Quiet: 8}
}

// sample is the config of the chapter's examples, which is that of chapter 7: its areas have the sectors 2 to 5 and 6 to 9.
func sample() api.Config { return config(2, 9, 4) }

// small is the least config that may be: its areas have the sectors 2 to 4 and 5 to 7.
func small() api.Config { return config(1, 1, 3) }

// configs are those at the edges.
func configs() []api.Config {
	l := []api.Config{sample()}
	for pairs := 1; pairs <= 3; pairs++ {
		for _, tracks := range []int{1, 16} {
			l = append(l, config(pairs, tracks, pairs+2), config(pairs, tracks, 32))
		}
	}
	return l
}

// many is how many sectors the disk of a config has, by the words of chapter 7.
func many(c api.Config) int {
	pages := (c.Tracks + 7) / 8
	return 2 + 2*c.Area + c.Pairs*pages + c.Pairs*c.Tracks*4
}

// place is the sector n of an area, by the words of chapter 7.
func place(c api.Config, area, n int) int { return 2 + area*c.Area + n }

// configMay tells whether a config may be, by the words of chapter 7.
func configMay(c api.Config) bool {
	within := func(n, least, most int) bool { return n >= least && n <= most }
	return within(c.Pairs, 1, 3) && within(c.Tracks, 1, 16) && within(c.Area, c.Pairs+2, 32) &&
		within(c.Most, 1, c.Pairs) && within(c.Window, 1, 4) && within(c.Quiet, 4, 64)
}

// may tells whether c may be, and d may be a site's disk, by the words of chapter 8.
func may(c api.Config, d api.Disk) bool {
	return configMay(c) && disk.Check(d) == api.OK && len(d.Sectors) == many(c)
}

// recMay tells whether a record may be, by the words of chapter 11.
func recMay(r api.Rec) bool {
	switch {
	case r.Pair < 0 || r.Pair > 2 || r.Born == 0 || r.Epoch == 0:
		return false
	case r.Lead < 0 || r.Lead > 1 || r.From < 0 || r.From > 1:
		return false
	case r.Phase < 1 || r.Phase > 3 || r.Phase != 1 && r.From != r.Lead:
		return false
	}
	return !r.Quick || r.Phase == 1 && r.From != r.Lead
}

// tableMay tells whether a table may be, by the words of chapter 11.
func tableMay(t []api.Rec) bool {
	for i, r := range t {
		if !recMay(r) || i > 0 && t[i-1].Pair >= r.Pair {
			return false
		}
	}
	return true
}

// metaMay tells whether c and m may be, by the chapter's words.
func metaMay(c api.Config, m api.Meta) bool {
	return configMay(c) && (m.Super.Area == 0 || m.Super.Area == 1) && m.Count >= 0 && m.Count <= c.Area &&
		m.Turn >= 0 && m.Turn <= lastOne && tableMay(m.Table)
}

// next is the next generation, by the chapter's words.
func next(m api.Meta) uint64 { return uint64(m.Super.Boot)*65536 + uint64(m.Turn+1) }

// note is a record's, by the words of chapter 11.
func note(r api.Rec) []byte {
	b := []byte{1, byte(r.Pair)}
	b = binary.BigEndian.AppendUint32(b, r.Born)
	b = binary.BigEndian.AppendUint32(b, r.Epoch)
	flags := byte(0)
	if r.Quick {
		flags += 2
	}
	if r.Alone {
		flags++
	}
	return append(b, byte(r.Lead), r.Phase, byte(r.From), flags)
}

// gone is the note that a pair's record is.
func gone(pair int) []byte { return []byte{2, byte(pair)} }

// put is t with what a note tells, by the words of chapter 11; false, if it is none.
func put(t []api.Rec, b []byte) ([]api.Rec, bool) {
	var r api.Rec
	switch {
	case len(b) == 2 && b[0] == 2 && b[1] < 3:
		r.Pair = int(b[1])
	case len(b) == 14:
		r = api.Rec{
			Pair: int(b[1]), Born: binary.BigEndian.Uint32(b[2:]), Epoch: binary.BigEndian.Uint32(b[6:]),
			Lead: int(b[10]), Phase: b[11], From: int(b[12]), Quick: b[13]&2 != 0, Alone: b[13]&1 != 0,
		}
		if !recMay(r) || !bytes.Equal(note(r), b) {
			return nil, false
		}
	default:
		return nil, false
	}
	var out []api.Rec
	for pair := range 3 {
		if pair == r.Pair && r.Born != 0 {
			out = append(out, r)
		}
		for _, x := range t {
			if x.Pair == pair && pair != r.Pair {
				out = append(out, x)
			}
		}
	}
	return out, true
}

// text is a note's, of a generation and a number, by the words of chapter 10.
func text(gen uint64, n int, b []byte) []byte {
	t := binary.BigEndian.AppendUint64(nil, gen)
	t = append(t, 1, byte(n), byte(len(b)), 0)
	t = append(t, b...)
	return append(t, make([]byte, size-len(t))...)
}

// row is a super's, by the words of chapter 9.
func row(s api.Super) []byte {
	b := binary.BigEndian.AppendUint32(nil, s.Boot)
	b = append(b, byte(s.Area))
	return binary.BigEndian.AppendUint64(b, s.Gen)
}

// slot is the sector of a slot that holds b, by the words of chapter 6.
func slot(version uint32, b []byte) []byte {
	t := binary.BigEndian.AppendUint32(nil, version)
	t = append(t, 0, byte(len(b)), 0, 0)
	t = append(t, b...)
	return append(t, make([]byte, size-len(t))...)
}

// read is what is read of a sector, by the words of chapter 5; nil if it can't be.
func read(d api.Disk, at int) []byte {
	for _, p := range slices.Backward(d.Cache) {
		if p.At == at {
			return p.Bytes
		}
	}
	if d.Sectors[at].Bad {
		return nil
	}
	return d.Sectors[at].Bytes
}

// version is that of which a sector is the text of bytes, and these; 0 if it is none.
func version(t []byte) (uint32, []byte) {
	if t == nil || t[5] > part {
		return 0, nil
	}
	n, b := binary.BigEndian.Uint32(t), t[8:8+t[5]]
	if !bytes.Equal(t, slot(n, b)) {
		return 0, nil
	}
	return n, b
}

// held is what the super's cell holds, if anything, and which slot a write takes, by the words of chapter 6.
func held(d api.Disk) (b []byte, is bool, free int) {
	v, a := version(read(d, 0))
	w, b := version(read(d, 1))
	switch {
	case v == 0 && w == 0:
		return nil, false, 0
	case v >= w:
		return a, true, 1
	}
	return b, true, 0
}

// count is that of the super's cell, by the words of chapter 6.
func count(d api.Disk) uint32 {
	var n uint32
	for at := range 2 {
		if t := read(d, at); t != nil {
			n = max(n, binary.BigEndian.Uint32(t))
		}
	}
	return n
}

// toldSuper is the super that a disk tells, by the words of chapter 9.
func toldSuper(d api.Disk) (api.Super, api.Errno) {
	b, is, _ := held(d)
	switch {
	case !is:
		return api.Super{}, api.OK
	case len(b) != 13 || b[4] > 1:
		return api.Super{}, api.ErrSuper
	}
	return api.Super{Boot: binary.BigEndian.Uint32(b), Area: int(b[4]), Gen: binary.BigEndian.Uint64(b[5:])}, api.OK
}

// superActs are the writes of a super, and a flush, by the words of chapter 9.
func superActs(d api.Disk, s api.Super) ([]api.Act, api.Errno) {
	if slices.ContainsFunc(d.Cache, func(p api.Pend) bool { return p.At < 2 }) {
		return nil, api.ErrBusy
	}
	if count(d) == top {
		return nil, api.ErrFull
	}
	_, _, free := held(d)
	return []api.Act{write(free, slot(count(d)+1, row(s))), flush()}, api.OK
}

func write(at int, b []byte) api.Act { return api.Act{Kind: 1, At: at, Bytes: b} }

func flush() api.Act { return api.Act{Kind: 2} }

// notesIn are the notes of an area, of a generation, by the words of chapter 10.
func notesIn(c api.Config, d api.Disk, area int, gen uint64) [][]byte {
	var l [][]byte
	for n := range c.Area {
		t := read(d, place(c, area, n))
		if t == nil || t[10] < 1 || t[10] > 20 || !bytes.Equal(t, text(gen, n, t[head:head+t[10]])) {
			break
		}
		l = append(l, t[head:head+t[10]])
	}
	return l
}

// toldOpen is what Open has to answer.
func toldOpen(c api.Config, d api.Disk) (api.Meta, api.Errno) {
	if !may(c, d) {
		return api.Meta{}, api.ErrBad
	}
	s, e := toldSuper(d)
	if e != api.OK {
		return api.Meta{}, e
	}
	m := api.Meta{Super: s}
	for _, b := range notesIn(c, d, s.Area, s.Gen) {
		t, is := put(m.Table, b)
		if !is {
			return api.Meta{}, api.ErrRec
		}
		m.Count, m.Table = m.Count+1, t
	}
	return m, api.OK
}

// toldCheck is what Check has to answer.
func toldCheck(c api.Config, m api.Meta) api.Errno {
	if !metaMay(c, m) {
		return api.ErrBad
	}
	return api.OK
}

// toldBoot is what Boot has to answer.
func toldBoot(c api.Config, d api.Disk, m api.Meta) (api.Meta, []api.Act, api.Errno) {
	switch {
	case !may(c, d) || !metaMay(c, m):
		return api.Meta{}, nil, api.ErrBad
	case m.Super.Boot == top:
		return api.Meta{}, nil, api.ErrFull
	}
	m.Super.Boot, m.Turn = m.Super.Boot+1, 0
	l, e := superActs(d, m.Super)
	if e != api.OK {
		return api.Meta{}, nil, e
	}
	return m, l, api.OK
}

// toldCommit is what Commit has to answer.
func toldCommit(c api.Config, d api.Disk, m api.Meta, b []byte) (api.Meta, []api.Act, api.Errno) {
	if !may(c, d) || !metaMay(c, m) {
		return api.Meta{}, nil, api.ErrBad
	}
	t, is := put(m.Table, b)
	switch {
	case !is:
		return api.Meta{}, nil, api.ErrRec
	case m.Count < c.Area:
		l := []api.Act{write(place(c, m.Super.Area, m.Count), text(m.Super.Gen, m.Count, b)), flush()}
		return api.Meta{Super: m.Super, Count: m.Count + 1, Turn: m.Turn, Table: t}, l, api.OK
	case m.Turn == lastOne:
		return api.Meta{}, nil, api.ErrFull
	}
	out := api.Meta{Super: api.Super{Boot: m.Super.Boot, Area: 1 - m.Super.Area, Gen: next(m)}, Count: len(t), Turn: m.Turn + 1, Table: t}
	var l []api.Act
	for n, r := range t {
		l = append(l, write(place(c, out.Super.Area, n), text(out.Super.Gen, n, note(r))))
	}
	behind, e := superActs(d, out.Super)
	if e != api.OK {
		return api.Meta{}, nil, e
	}
	return out, append(append(l, flush()), behind...), api.OK
}

// toldOrderly is what Orderly has to answer.
func toldOrderly(c api.Config, d api.Disk, m api.Meta) (bool, api.Errno) {
	if !may(c, d) || !metaMay(c, m) {
		return false, api.ErrBad
	}
	for area := range 2 {
		for n := range c.Area {
			t := read(d, place(c, area, n))
			if t == nil || area == m.Super.Area && n < m.Count || t[8] != 1 {
				continue
			}
			if gen := binary.BigEndian.Uint64(t); gen == m.Super.Gen || gen == next(m) {
				return false, api.OK
			}
		}
	}
	return true, api.OK
}

// bare is a disk that fits, of noughts.
func bare(c api.Config) api.Disk {
	d := api.Disk{Sectors: make([]api.Sector, many(c))}
	for i := range d.Sectors {
		d.Sectors[i].Bytes = make([]byte, size)
	}
	return d
}

// one and two are records of a pair that may be; no two, of whichever pairs, have a number of Born or Epoch in common.
func one(pair int) api.Rec {
	n := uint32(pair)
	return api.Rec{Pair: pair, Born: 0x01020304 + n, Epoch: 0x11121314 + n, Lead: 1, Phase: 1, From: 0, Quick: true}
}

func two(pair int) api.Rec {
	n := uint32(pair)
	return api.Rec{Pair: pair, Born: 0x21222324 + n, Epoch: 0x31323334 + n, Lead: 0, Phase: uint8(1 + pair), From: 0, Alone: true}
}

// tables are those that may be, of each number of records: of each pair there is none, or one, or two.
func tables() [][]api.Rec {
	all := [][]api.Rec{nil}
	for pair := range 3 {
		for _, t := range slices.Clone(all) {
			all = append(all, append(slices.Clone(t), one(pair)), append(slices.Clone(t), two(pair)))
		}
	}
	return all
}

// notes are all of these records, and of those that are gone.
func notes() [][]byte {
	var l [][]byte
	for pair := range 3 {
		l = append(l, note(one(pair)), note(two(pair)), gone(pair))
	}
	return l
}

// wrongNotes are none, each for one thing's sake; those of 1 to 20 bytes may stand in a journal.
func wrongNotes() map[string][]byte {
	turned := func(at int, to byte) []byte {
		b := note(one(0))
		b[at] = to
		return b
	}
	return map[string][]byte{
		"nil":           nil,
		"no bytes":      {},
		"a mark":        {1},
		"mark 3":        {3, 0},
		"gone: pair 3":  gone(3),
		"three bytes":   {2, 0, 0},
		"13 bytes":      note(one(0))[:13],
		"15 bytes":      append(note(one(0)), 0),
		"20 bytes":      bytes.Repeat([]byte{1}, 20),
		"21 bytes":      bytes.Repeat([]byte{1}, 21),
		"4096 bytes":    make([]byte, 4096),
		"noughts":       make([]byte, 14),
		"mark 2, of 14": turned(0, 2),
		"pair 3":        turned(1, 3),
		"pair 255":      turned(1, 255),
		"Born 0":        append([]byte{1, 0, 0, 0, 0, 0}, note(one(0))[6:]...),
		"Lead 2":        turned(10, 2),
		"Phase 0":       turned(11, 0),
		"Phase 4":       turned(11, 4),
		"Quick in pair": turned(11, 2),
		"From 2":        turned(12, 2),
		"flags 4":       turned(13, 4),
	}
}

// wrongTables may not be, each for one thing's sake.
func wrongTables() map[string][]api.Rec {
	turned := func(turn func(r *api.Rec)) []api.Rec {
		t := []api.Rec{one(0), two(1), two(2)}
		turn(&t[1])
		return t
	}
	return map[string][]api.Rec{
		"one of nothing": {{}},
		"two alike":      {one(0), one(0)},
		"of one pair":    {one(1), two(1)},
		"the wrong way":  {one(1), one(0)},
		"first again":    {one(0), one(1), one(0)},
		"four":           {one(0), one(1), one(2), two(2)},
		"pair -1":        {{Pair: -1, Born: 1, Epoch: 1, Phase: 2}},
		"pair 3":         {one(0), {Pair: 3, Born: 1, Epoch: 1, Phase: 2}},
		"Born 0":         turned(func(r *api.Rec) { r.Born = 0 }),
		"Epoch 0":        turned(func(r *api.Rec) { r.Epoch = 0 }),
		"Lead 2":         turned(func(r *api.Rec) { r.Lead, r.From = 2, 2 }),
		"Lead -1":        turned(func(r *api.Rec) { r.Lead, r.From = -1, -1 }),
		"From 1":         turned(func(r *api.Rec) { r.From = 1 }),
		"Phase 0":        turned(func(r *api.Rec) { r.Phase = 0 }),
		"Phase 4":        turned(func(r *api.Rec) { r.Phase = 4 }),
		"Quick":          turned(func(r *api.Rec) { r.Quick = true }),
	}
}

// far are numbers that are far from any that may be, of which many may be in less bits.
func far() []int {
	return []int{
		-255, -256, -257, -65535, -65536, -65537, 65536, 65537, 65538, 131072, top, 1 << 32, 1<<32 + 1, 1<<32 + 2, -1 << 32, 1 - 1<<32,
		math.MinInt32, math.MaxInt32, math.MinInt, math.MinInt + 1, math.MaxInt - 1, math.MaxInt,
	}
}

// known is what is, of so many notes of the area, and a table of two.
func known(count int) api.Meta {
	s := api.Super{Boot: 0x01020304, Area: 1, Gen: 0x05060708090a0b0c}
	return api.Meta{Super: s, Count: count, Turn: 0x0d0e, Table: []api.Rec{one(0), two(2)}}
}

// boots are numbers of boots at the edges.
func boots() []uint32 {
	return []uint32{0, 1, 2, 255, 256, 65535, 65536, 1<<20 - 1, 1 << 20, 1<<31 - 1, 1 << 31, top - 1, top}
}

// supers are those at the edges.
func supers() []api.Super {
	var l []api.Super
	for _, boot := range boots() {
		for area := range 2 {
			for _, gen := range []uint64{0, 1, 65537, 1 << 32, 1 << 63, math.MaxUint64} {
				l = append(l, api.Super{Boot: boot, Area: area, Gen: gen})
			}
		}
	}
	return l
}

// told is a disk that tells m, but for its Turn: the last of its notes are those of its table. What is no area's sector has the text of a note of its generation, or of the next one, of the number that an area would have there if it went on; an area's sectors that have none of the notes have noughts.
func told(c api.Config, m api.Meta) api.Disk {
	d := bare(c)
	for at := place(c, 2, 0); at < len(d.Sectors); at++ {
		gen := m.Super.Gen
		if at%3 == 0 {
			gen = next(m)
		}
		d.Sectors[at].Bytes = text(gen, (at-2)%c.Area, gone(0))
	}
	d.Sectors[0].Bytes = slot(7, row(m.Super))
	d.Sectors[1].Bytes = slot(6, row(api.Super{Boot: 9, Area: 1 - m.Super.Area, Gen: 9}))
	for n := range m.Count {
		b := gone(n % 3)
		if i := n - (m.Count - len(m.Table)); i >= 0 {
			b = note(m.Table[i])
		}
		d.Sectors[place(c, m.Super.Area, n)].Bytes = text(m.Super.Gen, n, b)
	}
	return d
}

// laid is d with another sector; it is Bad if that is nil.
func laid(d api.Disk, at int, t []byte) api.Disk {
	d = disk.Twin(d)
	d.Sectors[at] = api.Sector{Bytes: make([]byte, size), Bad: true}
	if t != nil {
		d.Sectors[at] = api.Sector{Bytes: bytes.Clone(t)}
	}
	return d
}

// cells are disks of a config in the ways in which the super's cell may stand there.
func cells(c api.Config) map[string]api.Disk {
	a, b := api.Super{Boot: 3, Area: 1, Gen: 65537}, api.Super{Boot: 2, Area: 0, Gen: 131074}
	slots := map[string][]byte{
		"noughts":     make([]byte, size),
		"Bad":         nil,
		"one, 7":      slot(7, row(a)),
		"two, 7":      slot(7, row(b)),
		"two, 5":      slot(5, row(b)),
		"two, 0":      slot(0, row(b)),
		"area 2, 6":   slot(6, row(api.Super{Boot: 3, Area: 2, Gen: 65537})),
		"12 bytes, 6": slot(6, row(a)[:12]),
		"14 bytes, 9": slot(9, append(row(a), 0)),
		"none, 8":     slot(8, nil),
		"no text":     bytes.Repeat([]byte{17}, size),
		"one, last":   slot(top-1, row(a)),
		"two, top":    slot(top, row(b)),
		"no text top": bytes.Repeat([]byte{255}, size),
	}
	all := map[string]api.Disk{}
	for x, first := range slots {
		for y, second := range slots {
			all[x+" and "+y] = laid(laid(bare(c), 0, first), 1, second)
		}
	}
	return all
}

// waiting is d with these writes behind the others of its cache.
func waiting(d api.Disk, writes ...api.Pend) api.Disk {
	d = disk.Twin(d)
	d.Cache = append(d.Cache, disk.Twin(api.Disk{Cache: writes}).Cache...)
	return d
}

// crowded is d with so many writes in the cache, those that are new ones neither the super's nor an area's.
func crowded(d api.Disk, many int) api.Disk {
	d = disk.Twin(d)
	for i := len(d.Cache); i < many; i++ {
		d.Cache = append(d.Cache, api.Pend{At: len(d.Sectors) - 1 - i%2, Bytes: bytes.Repeat([]byte{byte(i)}, size)})
	}
	return d
}

func shown(d api.Disk) string {
	at := []int{}
	for _, p := range d.Cache {
		at = append(at, p.At)
	}
	return fmt.Sprintf("%d sectors, writes of %v", len(d.Sectors), at)
}

func sameMeta(a, b api.Meta) bool {
	return a.Super == b.Super && a.Count == b.Count && a.Turn == b.Turn && slices.Equal(a.Table, b.Table)
}

func sameAct(a, b api.Act) bool {
	same := bytes.Equal(a.Bytes, b.Bytes)
	a.Bytes, b.Bytes = nil, nil
	return same && reflect.DeepEqual(a, b)
}

func sameActs(a, b []api.Act) bool { return slices.EqualFunc(a, b, sameAct) }

// brief is what counts of acts.
func brief(l []api.Act) string {
	s := ""
	for _, a := range l {
		s += fmt.Sprintf("%d at %d %v; ", a.Kind, a.At, a.Bytes)
	}
	return s
}

// holdOpen holds that the disk tells this, or that this error is told, and nothing beside.
func holdOpen(t *testing.T, c api.Config, d api.Disk, want api.Meta, wantE api.Errno) {
	t.Helper()
	if m, e := meta.Open(c, d); !sameMeta(m, want) || e != wantE {
		t.Errorf("Open(%v, %s): %+v, error %d; want %+v, error %d", c, shown(d), m, e, want, wantE)
	}
}

func holdCheck(t *testing.T, c api.Config, m api.Meta, wantE api.Errno) {
	t.Helper()
	if e := meta.Check(c, m); e != wantE {
		t.Errorf("Check(%v, %+v): error %d, want %d", c, m, e, wantE)
	}
}

func holdBoot(t *testing.T, c api.Config, d api.Disk, m, want api.Meta, wantL []api.Act, wantE api.Errno) {
	t.Helper()
	if out, l, e := meta.Boot(c, d, m); !sameMeta(out, want) || !sameActs(l, wantL) || e != wantE {
		t.Errorf("Boot(%v, %s, %+v): %+v, %serror %d; want %+v, %serror %d", c, shown(d), m, out, brief(l), e, want, brief(wantL), wantE)
	}
}

func holdCommit(t *testing.T, c api.Config, d api.Disk, m api.Meta, b []byte, want api.Meta, wantL []api.Act, wantE api.Errno) {
	t.Helper()
	if out, l, e := meta.Commit(c, d, m, b); !sameMeta(out, want) || !sameActs(l, wantL) || e != wantE {
		t.Errorf("Commit(%v, %s, %+v, %v): %+v, %serror %d; want %+v, %serror %d", c, shown(d), m, b, out, brief(l), e, want, brief(wantL), wantE)
	}
}

func holdOrderly(t *testing.T, c api.Config, d api.Disk, m api.Meta, want bool, wantE api.Errno) {
	t.Helper()
	if is, e := meta.Orderly(c, d, m); is != want || e != wantE {
		t.Errorf("Orderly(%v, %s, %+v): %v, error %d; want %v, error %d", c, shown(d), m, is, e, want, wantE)
	}
}

// holdAll holds that all calls answer what the chapter's words say, whatever is asked.
func holdAll(t *testing.T, c api.Config, d api.Disk, m api.Meta, b []byte) {
	t.Helper()
	want, e := toldOpen(c, d)
	holdOpen(t, c, d, want, e)
	holdCheck(t, c, m, toldCheck(c, m))
	is, e := toldOrderly(c, d, m)
	holdOrderly(t, c, d, m, is, e)
	want, l, e := toldBoot(c, d, m)
	holdBoot(t, c, d, m, want, l, e)
	want, l, e = toldCommit(c, d, m, b)
	holdCommit(t, c, d, m, b, want, l, e)
}

// refuse holds that the calls of a disk and what is known tell ErrBad, whatever else is right or wrong.
func refuse(t *testing.T, c api.Config, d api.Disk, m api.Meta) {
	t.Helper()
	holdOrderly(t, c, d, m, false, api.ErrBad)
	for _, boot := range []uint32{1, top} {
		m.Super.Boot = boot
		holdBoot(t, c, d, m, api.Meta{}, nil, api.ErrBad)
		for _, b := range [][]byte{note(two(1)), gone(0), gone(3), nil, make([]byte, 21)} {
			holdCommit(t, c, d, m, b, api.Meta{}, nil, api.ErrBad)
		}
	}
}

// refuseDisk holds the same of a config, or a disk, that may not be: so does Open.
func refuseDisk(t *testing.T, c api.Config, d api.Disk) {
	t.Helper()
	holdOpen(t, c, d, api.Meta{}, api.ErrBad)
	refuse(t, c, d, api.Meta{})
	refuse(t, c, d, known(3))
	refuse(t, c, d, api.Meta{Super: api.Super{Area: 2}, Count: -1, Turn: lastOne + 1, Table: []api.Rec{{}}})
}

func mustOpen(t *testing.T, c api.Config, d api.Disk) api.Meta {
	t.Helper()
	m, e := meta.Open(c, d)
	if e != api.OK {
		t.Fatalf("Open(%v, %s): error %d", c, shown(d), e)
	}
	return m
}

func mustBoot(t *testing.T, c api.Config, d api.Disk, m api.Meta) (api.Meta, []api.Act) {
	t.Helper()
	out, l, e := meta.Boot(c, d, m)
	if e != api.OK {
		t.Fatalf("Boot(%v, %s, %+v): error %d", c, shown(d), m, e)
	}
	return out, l
}

func mustCommit(t *testing.T, c api.Config, d api.Disk, m api.Meta, b []byte) (api.Meta, []api.Act) {
	t.Helper()
	out, l, e := meta.Commit(c, d, m, b)
	if e != api.OK {
		t.Fatalf("Commit(%v, %s, %+v, %v): error %d", c, shown(d), m, b, e)
	}
	return out, l
}

// done is d behind these acts.
func done(t *testing.T, d api.Disk, l ...api.Act) api.Disk {
	t.Helper()
	for _, a := range l {
		var e api.Errno
		switch a.Kind {
		case api.ActWrite:
			d, e = disk.Write(d, a.At, a.Bytes)
		case api.ActFlush:
			d, e = disk.Flush(d)
		default:
			t.Fatalf("an act of kind %d", a.Kind)
		}
		if e != api.OK {
			t.Fatalf("the act %s: error %d", brief([]api.Act{a}), e)
		}
	}
	return d
}

func crashed(t *testing.T, d api.Disk, fates ...uint8) api.Disk {
	t.Helper()
	out, e := disk.Crash(d, fates)
	if e != api.OK {
		t.Fatalf("Crash(%s, %v): error %d", shown(d), fates, e)
	}
	return out
}

// crashes hands on what is left of d behind a crash after each number of the acts, with every fate of the writes that wait.
func crashes(t *testing.T, d api.Disk, l []api.Act, hand func(many int, left api.Disk)) {
	t.Helper()
	for n := range len(l) + 1 {
		x := done(t, d, l[:n]...)
		all := 1
		for range x.Cache {
			all *= 3
		}
		for which := range all {
			var fates []uint8
			for range x.Cache {
				fates = append(fates, uint8(which%3))
				which /= 3
			}
			hand(n, crashed(t, x, fates...))
		}
	}
}

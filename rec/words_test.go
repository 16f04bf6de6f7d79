package rec_test

import (
	"bytes"
	"encoding/binary"
	"math"
	"math/rand/v2"
	"slices"
	"testing"

	"catamaran/api"
	"catamaran/rec"
)

const (
	long  = 14 // bytes of a record's note
	short = 2  // bytes of the note that one is gone
	top   = math.MaxUint32
)

func seeded(seed uint64) *rand.Rand { return rand.New(rand.NewPCG(seed, 11)) }

// may tells whether a record may be, by the chapter's words.
func may(r api.Rec) bool {
	switch {
	case r.Pair != 0 && r.Pair != 1 && r.Pair != 2:
		return false
	case r.Born == 0 || r.Epoch == 0:
		return false
	case r.Lead != 0 && r.Lead != 1 || r.From != 0 && r.From != 1:
		return false
	case r.Phase != 1 && r.Phase != 2 && r.Phase != 3:
		return false
	case r.Phase != 1 && r.From != r.Lead:
		return false
	}
	return !r.Quick || r.Phase == 1 && r.From != r.Lead
}

// tableMay tells whether a table may be, by the chapter's words.
func tableMay(t []api.Rec) bool {
	for i, r := range t {
		if !may(r) || i > 0 && t[i-1].Pair >= r.Pair {
			return false
		}
	}
	return true
}

// row is what the chapter's words put into a record's note, also where the record may not be: of each part as many bytes as there is room for.
func row(r api.Rec) []byte {
	b := []byte{1, byte(r.Pair)}
	b = binary.BigEndian.AppendUint32(b, r.Born)
	b = binary.BigEndian.AppendUint32(b, r.Epoch)
	flags := byte(0)
	if r.Quick {
		flags += 2
	}
	if r.Alone {
		flags++
	}
	return append(b, byte(r.Lead), r.Phase, byte(r.From), flags)
}

// gone is the note that a pair's record is.
func gone(pair int) []byte { return []byte{2, byte(pair)} }

// noted tells what a note tells, by the chapter's words: a record, or that the one of its pair is gone; neither, if it is no note.
func noted(b []byte) (r api.Rec, has, is bool) {
	if len(b) == short && b[0] == 2 && b[1] < 3 {
		return api.Rec{Pair: int(b[1])}, false, true
	}
	if len(b) != long || b[0] != 1 || b[13] > 3 {
		return api.Rec{}, false, false
	}
	r = api.Rec{
		Pair:  int(b[1]),
		Born:  binary.BigEndian.Uint32(b[2:]),
		Epoch: binary.BigEndian.Uint32(b[6:]),
		Lead:  int(b[10]),
		Phase: b[11],
		From:  int(b[12]),
		Quick: b[13] >= 2,
		Alone: b[13]%2 == 1,
	}
	if !may(r) {
		return api.Rec{}, false, false
	}
	return r, true, true
}

// put is t with what a note tells.
func put(t []api.Rec, r api.Rec, has bool) []api.Rec {
	out := []api.Rec{}
	for _, x := range t {
		if x.Pair != r.Pair {
			out = append(out, x)
		}
	}
	at := 0
	for at < len(out) && out[at].Pair < r.Pair {
		at++
	}
	if has {
		out = slices.Insert(out, at, r)
	}
	return out
}

// toldTable is what Table has to answer.
func toldTable(l [][]byte) ([]api.Rec, api.Errno) {
	var t []api.Rec
	for _, b := range l {
		r, has, is := noted(b)
		if !is {
			return nil, api.ErrRec
		}
		t = put(t, r, has)
	}
	return t, api.OK
}

// toldPut is what Put has to answer.
func toldPut(t []api.Rec, b []byte) ([]api.Rec, api.Errno) {
	r, has, is := noted(b)
	if !tableMay(t) || !is {
		return nil, api.ErrRec
	}
	return put(t, r, has), api.OK
}

// toldNotes is what Notes has to answer.
func toldNotes(t []api.Rec) ([][]byte, api.Errno) {
	if !tableMay(t) {
		return nil, api.ErrRec
	}
	var l [][]byte
	for _, r := range t {
		l = append(l, row(r))
	}
	return l, api.OK
}

// toldFind is what Find has to answer.
func toldFind(t []api.Rec, pair int) (api.Rec, bool) {
	at := slices.IndexFunc(t, func(r api.Rec) bool { return r.Pair == pair })
	if !tableMay(t) || at < 0 {
		return api.Rec{}, false
	}
	return t[at], true
}

// far are numbers that are no pair and no site, of which many are one in less bits.
func far() []int {
	return []int{
		-1, -2, -3, -254, -255, -256, -257, 3, 4, 5, 127, 128, 254, 255, 256, 257, 258, 259, 65535, 65536, 65537, 65538,
		top, 1 << 32, 1<<32 + 1, 1<<32 + 2, -1 << 32, 1 - 1<<32, math.MinInt32, math.MaxInt32,
		math.MinInt, math.MinInt + 1, math.MinInt + 2, math.MaxInt - 1, math.MaxInt,
	}
}

// edges are records at the edges, such as may be and such as may not.
func edges() []api.Rec {
	var l []api.Rec
	each(func(r api.Rec) {
		for _, pair := range []int{-1, 0, 1, 2, 3} {
			for _, born := range []uint32{0, 1, 258, top} {
				for _, epoch := range []uint32{0, 1, 3, top} {
					r.Pair, r.Born, r.Epoch = pair, born, epoch
					l = append(l, r)
				}
			}
		}
	})
	return l
}

// each hands on all sites, phases and flags at the edges.
func each(hand func(r api.Rec)) {
	for _, lead := range []int{-1, 0, 1, 2} {
		for _, from := range []int{-1, 0, 1, 2} {
			for _, phase := range []uint8{0, 1, 2, 3, 4, 255} {
				for flags := range 4 {
					hand(api.Rec{Lead: lead, Phase: phase, From: from, Quick: flags >= 2, Alone: flags%2 == 1})
				}
			}
		}
	}
}

// right are those of the edges that may be.
func right() []api.Rec {
	return slices.DeleteFunc(edges(), func(r api.Rec) bool { return !may(r) })
}

// example is the record of the chapter's example.
func example() api.Rec {
	return api.Rec{Pair: 1, Born: 258, Epoch: 3, Lead: 1, Phase: 1, From: 0, Quick: true, Alone: true}
}

// one and two are records of a pair that may be; no two, of whichever pairs, have a number of Born or Epoch in common.
func one(pair int) api.Rec {
	n := uint32(pair)
	return api.Rec{Pair: pair, Born: 0x01020304 + n, Epoch: 0x11121314 + n, Lead: 1, Phase: 1, From: 0, Quick: true}
}

func two(pair int) api.Rec {
	n := uint32(pair)
	return api.Rec{Pair: pair, Born: 0x21222324 + n, Epoch: 0x31323334 + n, Lead: 0, Phase: uint8(1 + pair), From: 0, Alone: true}
}

// tables are those that may be, of each number of records: of each pair there is none, or one, or two.
func tables() [][]api.Rec {
	all := [][]api.Rec{nil}
	for pair := range 3 {
		for _, t := range slices.Clone(all) {
			all = append(all, append(slices.Clone(t), one(pair)), append(slices.Clone(t), two(pair)))
		}
	}
	return all
}

// notes are all of these records, and of those that are gone.
func notes() [][]byte {
	var l [][]byte
	for pair := range 3 {
		l = append(l, row(one(pair)), row(two(pair)), gone(pair))
	}
	return l
}

// turned is b with another byte at a place.
func turned(b []byte, at int, to byte) []byte {
	b = bytes.Clone(b)
	b[at] = to
	return b
}

// wrongNotes are none, each for one thing's sake.
func wrongNotes() map[string][]byte {
	from1 := one(0)
	from1.From, from1.Quick = 1, false
	return map[string][]byte{
		"nil":                   nil,
		"no bytes":              {},
		"a mark alone":          {1},
		"the mark of one gone":  {2},
		"a record's two":        {1, 0},
		"three of one gone":     {2, 0, 0},
		"13 bytes":              row(one(0))[:13],
		"15 bytes":              append(row(one(0)), 0),
		"28 bytes":              append(row(one(0)), row(one(1))...),
		"4 bytes":               append(gone(0), gone(1)...),
		"16 bytes":              append(gone(0), row(one(0))...),
		"16 bytes, the other":   append(row(one(0)), gone(0)...),
		"14 of one gone":        append(gone(0), make([]byte, 12)...),
		"noughts, 14":           make([]byte, long),
		"noughts, 2":            make([]byte, short),
		"mark 0":                turned(row(one(0)), 0, 0),
		"mark 2":                turned(row(one(0)), 0, 2),
		"mark 3":                turned(row(one(0)), 0, 3),
		"mark 255":              turned(row(one(0)), 0, 255),
		"mark 129":              turned(row(one(0)), 0, 129),
		"gone: mark 0":          {0, 1},
		"gone: mark 3":          {3, 1},
		"gone: mark 255":        {255, 1},
		"gone: pair 3":          gone(3),
		"gone: pair 4":          gone(4),
		"gone: pair 255":        gone(255),
		"pair 3":                turned(row(one(0)), 1, 3),
		"pair 255":              turned(row(one(0)), 1, 255),
		"Born 0":                append([]byte{1, 0, 0, 0, 0, 0}, row(one(0))[6:]...),
		"Epoch 0":               append(row(one(0))[:6:6], 0, 0, 0, 0, 1, 1, 0, 2),
		"Lead 2":                turned(row(one(0)), 10, 2),
		"Lead 255":              turned(row(one(0)), 10, 255),
		"Phase 0":               turned(row(two(0)), 11, 0),
		"Phase 4":               turned(row(two(0)), 11, 4),
		"Phase 255":             turned(row(two(0)), 11, 255),
		"From 2":                turned(row(one(0)), 12, 2),
		"From 255":              turned(row(one(0)), 12, 255),
		"From no Lead, PhPair":  turned(row(two(1)), 12, 1),
		"From no Lead, PhSplit": turned(row(two(2)), 12, 1),
		"Quick, From Lead":      turned(row(from1), 13, 2),
		"Quick, PhPair":         turned(row(two(1)), 13, 2),
		"Quick, Alone, PhSplit": turned(row(two(2)), 13, 3),
		"flags 4":               turned(row(one(0)), 13, 4),
		"flags 6":               turned(row(one(0)), 13, 6),
		"flags 128":             turned(row(one(0)), 13, 128),
		"flags 255":             turned(row(one(0)), 13, 255),
		"flags 4, PhPair":       turned(row(two(1)), 13, 4),
		"flags 5, PhPair":       turned(row(two(1)), 13, 5),
		"the other way round":   {0, 2},
		"a pair that is a mark": {1, 2},
		"a text":                []byte("fourteen bytes"),
		"a text of two":         []byte("ab"),
		"4096 bytes of one":     bytes.Repeat([]byte{1}, 4096),
		"4096 bytes of notes":   bytes.Repeat(gone(2), 2048),
		"its bytes backwards":   backwards(row(one(0))),
		"gone, of a record's":   append(gone(0), row(one(0))[2:]...),
		"mark 2, of pair 2":     turned(row(one(2)), 0, 2),
	}
}

func backwards(b []byte) []byte {
	b = bytes.Clone(b)
	slices.Reverse(b)
	return b
}

// wrongTables may not be, each for one thing's sake.
func wrongTables() map[string][]api.Rec {
	all := map[string][]api.Rec{
		"two alike":         {one(0), one(0)},
		"two of one pair":   {one(1), two(1)},
		"the wrong way":     {one(1), one(0)},
		"far the wrong way": {one(2), one(0)},
		"backwards":         {one(2), one(1), one(0)},
		"alike at first":    {one(0), two(0), one(2)},
		"alike at last":     {one(0), one(2), two(2)},
		"turned at first":   {one(1), one(0), one(2)},
		"turned at last":    {one(0), one(2), one(1)},
		"first again":       {one(0), one(1), one(0)},
		"four":              {one(0), one(1), one(2), two(2)},
		"four, and a pair":  {one(0), one(1), one(2), {Pair: 3, Born: 1, Epoch: 1, Phase: 2}},
	}
	for name, r := range wrongRecs() {
		for at := range 3 {
			t := []api.Rec{one(0), one(1), one(2)}
			if r.Pair >= 0 && r.Pair < 3 {
				r.Pair = at
			}
			t[at] = r
			all[name+", one of three"+string(rune('0'+at))] = t
			all[name+", with those ahead"+string(rune('0'+at))] = slices.Clone(t[:at+1])
			all[name+", with those behind"+string(rune('0'+at))] = slices.Clone(t[at:])
		}
	}
	return all
}

// wrongRecs may not be, each for one thing's sake.
func wrongRecs() map[string]api.Rec {
	turn := func(turn func(r *api.Rec)) api.Rec {
		r := api.Rec{Pair: 1, Born: 5, Epoch: 2, Lead: 0, Phase: 2, From: 0}
		turn(&r)
		return r
	}
	return map[string]api.Rec{
		"none":                  {},
		"pair -1":               turn(func(r *api.Rec) { r.Pair = -1 }),
		"pair 3":                turn(func(r *api.Rec) { r.Pair = 3 }),
		"Born 0":                turn(func(r *api.Rec) { r.Born = 0 }),
		"Epoch 0":               turn(func(r *api.Rec) { r.Epoch = 0 }),
		"Lead -1":               turn(func(r *api.Rec) { r.Lead, r.From = -1, -1 }),
		"Lead 2":                turn(func(r *api.Rec) { r.Lead, r.From = 2, 2 }),
		"Lead 2, in PhCopy":     turn(func(r *api.Rec) { r.Lead, r.Phase = 2, 1 }),
		"From 2, in PhCopy":     turn(func(r *api.Rec) { r.From, r.Phase = 2, 1 }),
		"From -1, in PhCopy":    turn(func(r *api.Rec) { r.From, r.Phase = -1, 1 }),
		"From 1, in PhPair":     turn(func(r *api.Rec) { r.From = 1 }),
		"From 1, in PhSplit":    turn(func(r *api.Rec) { r.From, r.Phase = 1, 3 }),
		"Phase 0":               turn(func(r *api.Rec) { r.Phase = 0 }),
		"Phase 4":               turn(func(r *api.Rec) { r.Phase = 4 }),
		"Phase 255":             turn(func(r *api.Rec) { r.Phase = 255 }),
		"Quick, in PhPair":      turn(func(r *api.Rec) { r.Quick = true }),
		"Quick, in PhSplit":     turn(func(r *api.Rec) { r.Quick, r.Phase = true, 3 }),
		"Quick, From Lead":      turn(func(r *api.Rec) { r.Quick, r.Phase = true, 1 }),
		"Quick, back, in pair":  turn(func(r *api.Rec) { r.Quick, r.From = true, 1 }),
		"Quick, back, in split": turn(func(r *api.Rec) { r.Quick, r.From, r.Phase = true, 1, 3 }),
	}
}

func alikeNotes(a, b [][]byte) bool { return slices.EqualFunc(a, b, bytes.Equal) }

// holdRec holds that what is told of a record is what the chapter's words say.
func holdRec(t *testing.T, r api.Rec) {
	t.Helper()
	var want []byte
	wantE := api.ErrRec
	if may(r) {
		want, wantE = row(r), api.OK
	}
	if e := rec.Check(r); e != wantE {
		t.Errorf("Check(%+v): error %d, want %d", r, e, wantE)
	}
	if b, e := rec.Note(r); !bytes.Equal(b, want) || e != wantE {
		t.Errorf("Note(%+v): %v, error %d; want %v, error %d", r, b, e, want, wantE)
	}
}

func holdGone(t *testing.T, pair int, want []byte, wantE api.Errno) {
	t.Helper()
	if b, e := rec.Gone(pair); !bytes.Equal(b, want) || e != wantE {
		t.Errorf("Gone(%d): %v, error %d; want %v, error %d", pair, b, e, want, wantE)
	}
}

// holdTable holds that this is the table of these notes, or that this error is told, and nothing beside.
func holdTable(t *testing.T, l [][]byte, want []api.Rec, wantE api.Errno) {
	t.Helper()
	if x, e := rec.Table(l); !slices.Equal(x, want) || e != wantE {
		t.Errorf("Table(%v): %+v, error %d; want %+v, error %d", l, x, e, want, wantE)
	}
}

func holdPut(t *testing.T, x []api.Rec, b []byte, want []api.Rec, wantE api.Errno) {
	t.Helper()
	if y, e := rec.Put(x, b); !slices.Equal(y, want) || e != wantE {
		t.Errorf("Put(%+v, %v): %+v, error %d; want %+v, error %d", x, b, y, e, want, wantE)
	}
}

func holdNotes(t *testing.T, x []api.Rec, want [][]byte, wantE api.Errno) {
	t.Helper()
	if l, e := rec.Notes(x); !alikeNotes(l, want) || e != wantE {
		t.Errorf("Notes(%+v): %v, error %d; want %v, error %d", x, l, e, want, wantE)
	}
}

func holdFind(t *testing.T, x []api.Rec, pair int, want api.Rec, wantIs bool) {
	t.Helper()
	if r, is := rec.Find(x, pair); r != want || is != wantIs {
		t.Errorf("Find(%+v, %d): %+v, %v; want %+v, %v", x, pair, r, is, want, wantIs)
	}
}

// holdNote holds that a text is taken for what the chapter's words say, alone, and put into a table.
func holdNote(t *testing.T, b []byte) {
	t.Helper()
	x, e := toldTable([][]byte{b})
	holdTable(t, [][]byte{b}, x, e)
	for _, x := range [][]api.Rec{nil, {one(1)}, {two(0), one(1), two(2)}} {
		want, e := toldPut(x, b)
		holdPut(t, x, b, want, e)
	}
}

// holdAll holds that all calls on a table, and these notes and this pair, answer what the chapter's words say.
func holdAll(t *testing.T, x []api.Rec, l [][]byte, pair int) {
	t.Helper()
	want, e := toldTable(l)
	holdTable(t, l, want, e)
	for _, b := range l {
		want, e := toldPut(x, b)
		holdPut(t, x, b, want, e)
	}
	wantL, e := toldNotes(x)
	holdNotes(t, x, wantL, e)
	wantR, is := toldFind(x, pair)
	holdFind(t, x, pair, wantR, is)
	for _, r := range x {
		holdRec(t, r)
	}
}

func mustTable(t *testing.T, l [][]byte) []api.Rec {
	t.Helper()
	x, e := rec.Table(l)
	if e != api.OK {
		t.Fatalf("Table(%v): error %d", l, e)
	}
	return x
}

func mustPut(t *testing.T, x []api.Rec, l ...[]byte) []api.Rec {
	t.Helper()
	for _, b := range l {
		y, e := rec.Put(x, b)
		if e != api.OK {
			t.Fatalf("Put(%+v, %v): error %d", x, b, e)
		}
		x = y
	}
	return x
}

func mustNotes(t *testing.T, x []api.Rec) [][]byte {
	t.Helper()
	l, e := rec.Notes(x)
	if e != api.OK {
		t.Fatalf("Notes(%+v): error %d", x, e)
	}
	return l
}

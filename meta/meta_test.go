package meta_test

import (
	"bytes"
	"encoding/binary"
	"math"
	"math/rand/v2"
	"reflect"
	"slices"
	"sync"
	"testing"

	"catamaran/api"
	"catamaran/disk"
	"catamaran/meta"
)

// The chapter's examples.
func TestExamples(t *testing.T) {
	c, d := sample(), bare(sample())
	holdOpen(t, c, d, api.Meta{}, api.OK)
	m, l := mustBoot(t, c, d, mustOpen(t, c, d))
	if len(l) != 2 || m.Super.Boot != 1 {
		t.Errorf("a boot: %+v, %s", m, brief(l))
	}
	d = done(t, d, l...)
	for n := range 4 {
		m, l = mustCommit(t, c, d, m, note(one(n%2)))
		if len(l) != 2 || m.Count != n+1 || m.Super != (api.Super{Boot: 1}) {
			t.Errorf("the note %d: %+v, %s", n, m, brief(l))
		}
		d = done(t, d, l...)
	}
	m, l = mustCommit(t, c, d, m, note(two(0)))
	if m.Super != (api.Super{Boot: 1, Area: 1, Gen: 65537}) || m.Count != 2 || m.Turn != 1 {
		t.Errorf("the fifth note: %+v, %s", m, brief(l))
	}
	m.Turn = 0
	holdOpen(t, c, done(t, d, l...), m, api.OK)
}

// All acts, byte by byte: a boot, a note, and the journal written anew.
func TestExampleBytes(t *testing.T) {
	c, d := sample(), bare(sample())
	first := []byte{0, 0, 0, 1, 0, 13, 0, 0, 0, 0, 0, 1, 0, 0, 0, 0, 0, 0, 0, 0, 0, 0, 0, 0, 0, 0, 0, 0, 0, 0, 0, 0}
	m := api.Meta{Super: api.Super{Boot: 1}}
	holdBoot(t, c, d, api.Meta{Turn: 5}, m, []api.Act{write(0, first), flush()}, api.OK)
	d = laid(d, 0, first)
	holdOpen(t, c, d, m, api.OK)
	a := []byte{1, 1, 0, 0, 1, 2, 0, 0, 0, 3, 1, 1, 0, 3}
	at2 := append(append([]byte{0, 0, 0, 0, 0, 0, 0, 0, 1, 0, 14, 0}, a...), 0, 0, 0, 0, 0, 0)
	r := api.Rec{Pair: 1, Born: 258, Epoch: 3, Lead: 1, Phase: 1, Quick: true, Alone: true}
	behind := api.Meta{Super: m.Super, Count: 1, Table: []api.Rec{r}}
	holdCommit(t, c, d, m, a, behind, []api.Act{write(2, at2), flush()}, api.OK)
	holdOpen(t, c, laid(d, 2, at2), behind, api.OK)
	m = api.Meta{Super: api.Super{Boot: 1}, Count: 4, Turn: 2, Table: []api.Rec{r}}
	b := []byte{1, 0, 0, 0, 0, 5, 0, 0, 0, 2, 0, 2, 0, 0}
	at6 := append(append([]byte{0, 0, 0, 0, 0, 1, 0, 3, 1, 0, 14, 0}, b...), 0, 0, 0, 0, 0, 0)
	at7 := append(append([]byte{0, 0, 0, 0, 0, 1, 0, 3, 1, 1, 14, 0}, a...), 0, 0, 0, 0, 0, 0)
	next := []byte{0, 0, 0, 2, 0, 13, 0, 0, 0, 0, 0, 1, 1, 0, 0, 0, 0, 0, 1, 0, 3, 0, 0, 0, 0, 0, 0, 0, 0, 0, 0, 0}
	behind = api.Meta{Super: api.Super{Boot: 1, Area: 1, Gen: 65539}, Count: 2, Turn: 3, Table: []api.Rec{{Born: 5, Epoch: 2, Phase: 2}, r}}
	holdCommit(t, c, d, m, b, behind, []api.Act{write(6, at6), write(7, at7), flush(), write(1, next), flush()}, api.OK)
	behind.Turn = 0
	holdOpen(t, c, laid(laid(laid(d, 6, at6), 7, at7), 1, next), behind, api.OK)
}

// The numbers of the limits, the kinds and the errors, which the document names.
func TestNumbers(t *testing.T) {
	if api.MaxTurn != lastOne || api.ActWrite != 1 || api.ActFlush != 2 {
		t.Errorf("%d turns, the kinds %d and %d", api.MaxTurn, api.ActWrite, api.ActFlush)
	}
	for e, want := range map[api.Errno]int{
		api.OK: 0, api.ErrBad: 8, api.ErrFull: 9, api.ErrBusy: 60, api.ErrSuper: 90, api.ErrRec: 110,
	} {
		if int(e) != want {
			t.Errorf("the error %d, want %d", e, want)
		}
	}
}

// P12.1: what a disk tells, of each super at the edges; Turn is 0.
func TestOpenSuper(t *testing.T) {
	for _, c := range []api.Config{sample(), small()} {
		for _, s := range supers() {
			for count := range c.Area + 1 {
				m := api.Meta{Super: s, Count: count, Table: []api.Rec{one(0), two(2)}[:min(count, 2)]}
				holdOpen(t, c, told(c, m), m, api.OK)
			}
		}
	}
	c := sample()
	for name, d := range cells(c) {
		want, e := toldOpen(c, d)
		holdOpen(t, c, d, want, e)
		if t.Failed() {
			t.Fatal(name)
		}
	}
	holdOpen(t, c, laid(told(c, known(4)), 0, slot(9, row(known(4).Super)[:12])), api.Meta{}, api.ErrSuper)
	holdOpen(t, c, laid(told(c, known(4)), 1, slot(9, nil)), api.Meta{}, api.ErrSuper)
}

// P12.1: of each config, each table that there may be, and each number of notes that may tell it, from none to all.
func TestOpenTables(t *testing.T) {
	for _, c := range configs() {
		for _, table := range tables() {
			for area := range 2 {
				for _, count := range []int{len(table), len(table) + 1, c.Area - 1, c.Area} {
					if count < len(table) || count > c.Area {
						continue
					}
					m := api.Meta{Super: api.Super{Boot: 5, Area: area, Gen: 327681}, Count: count, Table: table}
					holdOpen(t, c, told(c, m), m, api.OK)
				}
			}
		}
	}
}

// P12.1: notes are put down one behind the other: all runs of up to four.
func TestOpenRuns(t *testing.T) {
	c, all := sample(), notes()
	runs := [][][]byte{nil}
	for from := 0; len(runs) < 1000; from++ {
		for _, b := range all {
			runs = append(runs, append(slices.Clone(runs[from]), b))
		}
	}
	for i, run := range runs {
		s := api.Super{Boot: 3, Area: i % 2, Gen: uint64(i)}
		d := told(c, api.Meta{Super: s})
		want := api.Meta{Super: s, Count: len(run)}
		for n, b := range run {
			d.Sectors[place(c, s.Area, n)].Bytes = text(s.Gen, n, b)
			want.Table, _ = put(want.Table, b)
		}
		holdOpen(t, c, d, want, api.OK)
	}
}

// P12.1: notes that are none of records, at each place among the others; where they are no notes of the area in use, of its generation, they count for nothing.
func TestOpenNoRecords(t *testing.T) {
	for _, c := range []api.Config{sample(), small()} {
		m := known(c.Area)
		m.Turn = 0
		full := told(c, m)
		holdOpen(t, c, full, m, api.OK)
		for name, b := range wrongNotes() {
			if len(b) < 1 || len(b) > 20 {
				continue
			}
			for n := range c.Area {
				at := place(c, 1, n)
				holdOpen(t, c, laid(full, at, text(m.Super.Gen, n, b)), api.Meta{}, api.ErrRec)
				holdOpen(t, c, laid(full, place(c, 0, n), text(m.Super.Gen, n, b)), m, api.OK)
				for _, x := range [][]byte{nil, text(m.Super.Gen+1, n, b), text(m.Super.Gen, n+1, b), make([]byte, size)} {
					d := laid(full, at, x)
					want, e := toldOpen(c, d)
					if e != api.OK || want.Count != n {
						t.Fatalf("%s: %+v, error %d", name, want, e)
					}
					holdOpen(t, c, d, want, api.OK)
				}
			}
		}
	}
}

// P12.1: sectors count as they are read: by the last write in the cache, else by themselves.
func TestAsRead(t *testing.T) {
	c, m := sample(), known(2)
	m.Turn = 0
	d := told(c, m)
	s := api.Super{Boot: 8, Area: 0, Gen: 9}
	super := api.Pend{At: 1, Bytes: slot(8, row(s))}
	holdOpen(t, c, waiting(d, super), api.Meta{Super: s}, api.OK)
	holdOpen(t, c, waiting(laid(d, 1, nil), super), api.Meta{Super: s}, api.OK)
	holdOpen(t, c, waiting(d, api.Pend{At: 0, Bytes: make([]byte, size)}), api.Meta{Super: api.Super{Boot: 9, Gen: 9}}, api.OK)
	holdOpen(t, c, waiting(d, api.Pend{At: 1, Bytes: slot(8, nil)}), api.Meta{}, api.ErrSuper)
	third := api.Pend{At: place(c, 1, 2), Bytes: text(m.Super.Gen, 2, note(one(1)))}
	blank := api.Pend{At: place(c, 1, 2), Bytes: make([]byte, size)}
	stray := api.Pend{At: place(c, 1, 2), Bytes: text(m.Super.Gen, 2, gone(3))}
	with := m
	with.Count, with.Table = 3, []api.Rec{one(0), one(1), two(2)}
	for _, d := range []api.Disk{d, laid(d, third.At, nil), laid(d, third.At, third.Bytes), laid(d, third.At, stray.Bytes)} {
		for _, ahead := range []int{0, 1, 61} {
			d := crowded(d, ahead)
			holdOpen(t, c, crowded(waiting(d, third), room), with, api.OK)
			holdOpen(t, c, crowded(waiting(d, blank, third), room), with, api.OK)
			holdOpen(t, c, crowded(waiting(d, third, blank), room), m, api.OK)
			holdOpen(t, c, crowded(waiting(d, third, stray), room), api.Meta{}, api.ErrRec)
			holdOrderly(t, c, crowded(waiting(d, third), room), m, false, api.OK)
			holdOrderly(t, c, crowded(waiting(d, blank, stray), room), m, false, api.OK)
			holdOrderly(t, c, crowded(waiting(d, third, blank), room), m, true, api.OK)
			holdOrderly(t, c, crowded(waiting(d, third), room), with, true, api.OK)
			holdOrderly(t, c, crowded(waiting(d, blank), room), with, true, api.OK)
		}
	}
}

// P12.1, P12.2: what is known may be, or not, for the sake of one part alone; the others are at the edges.
func TestKnown(t *testing.T) {
	for _, c := range configs() {
		right := []api.Meta{{}, known(0), known(c.Area), {Super: api.Super{Boot: top, Area: 1, Gen: math.MaxUint64}, Count: c.Area, Turn: lastOne, Table: []api.Rec{one(0), one(1), one(2)}}}
		d := told(c, known(2))
		hold := func(turn func(m *api.Meta), may bool) {
			t.Helper()
			for _, m := range right {
				turn(&m)
				if metaMay(c, m) != may {
					t.Fatalf("%v, %+v", c, m)
				}
				holdAll(t, c, d, m, note(one(1)))
				holdAll(t, c, d, m, gone(3))
				if !may {
					holdCheck(t, c, m, api.ErrBad)
					refuse(t, c, d, m)
				} else {
					holdCheck(t, c, m, api.OK)
				}
			}
		}
		for _, n := range append(far(), -2, -1, 2, 3, 127, 128, 255, 256) {
			hold(func(m *api.Meta) { m.Super.Area = n }, false)
		}
		for _, n := range append(far(), -2, -1, c.Area+1, c.Area+2, 2*c.Area, 33, 64, 255, 256, 65535) {
			hold(func(m *api.Meta) { m.Count = n }, false)
		}
		for _, n := range append(far(), -2, -1, 65536, 65537) {
			hold(func(m *api.Meta) { m.Turn = n }, false)
		}
		for _, table := range wrongTables() {
			hold(func(m *api.Meta) { m.Table = table }, false)
		}
		for _, n := range []int{0, 1} {
			hold(func(m *api.Meta) { m.Super.Area = n }, true)
		}
		for _, n := range []int{0, 1, 2, 3, c.Area / 2, c.Area - 1, c.Area} {
			hold(func(m *api.Meta) { m.Count = n }, true)
		}
		for _, n := range []int{0, 1, 255, 256, 32767, 32768, 65534, 65535} {
			hold(func(m *api.Meta) { m.Turn = n }, true)
		}
		for _, table := range append(tables(), []api.Rec{}) {
			hold(func(m *api.Meta) { m.Table = table }, true)
		}
	}
}

// P12.1: a sector that begins as a note, at each place of both areas: among the first Count ones of the area in use it may.
func TestOrderlyPlaces(t *testing.T) {
	for _, c := range []api.Config{small(), sample(), config(3, 16, 5), config(2, 9, 32)} {
		for area := range 2 {
			for count := range c.Area + 1 {
				m := known(count)
				m.Super.Area = area
				base := told(c, m)
				holdOrderly(t, c, base, m, true, api.OK)
				for at := range 2 * c.Area {
					free := at/c.Area == area && at%c.Area < count
					for _, gen := range []uint64{m.Super.Gen, next(m)} {
						d := laid(base, place(c, at/c.Area, at%c.Area), text(gen, at%c.Area, gone(0)))
						holdOrderly(t, c, d, m, free, api.OK)
					}
				}
				if t.Failed() {
					t.Fatalf("%v, area %d, %d notes", c, area, count)
				}
			}
		}
	}
}

// begins is a sector that begins as a note of that generation, with 1 behind it, or another byte.
func begins(gen uint64, mark byte) []byte {
	b := bytes.Repeat([]byte{255}, size)
	binary.BigEndian.PutUint64(b, gen)
	b[8] = mark
	return b
}

// P12.1: it begins as one by 8 bytes and 1, whatever stands behind these; by no other bytes.
func TestOrderlyBytes(t *testing.T) {
	c := sample()
	m := known(2)
	base := told(c, m)
	for _, at := range []int{place(c, 1, 2), place(c, 1, 3), place(c, 0, 0), place(c, 0, 3)} {
		for _, gen := range []uint64{m.Super.Gen, next(m)} {
			for _, rest := range [][]byte{make([]byte, size-9), bytes.Repeat([]byte{255}, size-9), text(gen, 0, gone(0))[9:], text(gen, 77, gone(3))[9:]} {
				b := append(begins(gen, 1)[:9], rest...)
				holdOrderly(t, c, laid(base, at, b), m, false, api.OK)
			}
			for mark := range 256 {
				holdOrderly(t, c, laid(base, at, begins(gen, byte(mark))), m, mark != 1, api.OK)
			}
			for bit := range 64 {
				other := gen ^ 1<<bit
				holdOrderly(t, c, laid(base, at, begins(other, 1)), m, other != m.Super.Gen && other != next(m), api.OK)
			}
			little := begins(gen, 1)
			slices.Reverse(little[:8])
			holdOrderly(t, c, laid(base, at, little), m, true, api.OK)
		}
		for _, gen := range []uint64{m.Super.Gen - 1, m.Super.Gen + 1, next(m) - 1, next(m) + 1, next(m) + 65536, next(m) - 65536, 0, math.MaxUint64} {
			holdOrderly(t, c, laid(base, at, begins(gen, 1)), m, true, api.OK)
		}
		holdOrderly(t, c, laid(base, at, nil), m, true, api.OK)
		holdOrderly(t, c, laid(base, at, make([]byte, size)), m, true, api.OK)
	}
}

// P12.1: the generation 0, which noughts do not begin as, with 1 behind it; and sectors that can't be read, which have noughts.
func TestOrderlyNoughts(t *testing.T) {
	for _, c := range configs() {
		holdOrderly(t, c, bare(c), api.Meta{}, true, api.OK)
		d := bare(c)
		for at := range d.Sectors {
			d.Sectors[at] = api.Sector{Bytes: make([]byte, size), Bad: true}
		}
		holdOrderly(t, c, d, api.Meta{}, true, api.OK)
		for n := range c.Area {
			at := place(c, 1, n)
			holdOrderly(t, c, laid(d, at, begins(0, 1)), api.Meta{}, false, api.OK)
			holdOrderly(t, c, laid(d, at, begins(1, 1)), api.Meta{}, false, api.OK)
			holdOrderly(t, c, laid(d, at, begins(2, 1)), api.Meta{}, true, api.OK)
			holdOrderly(t, c, laid(d, at, begins(0, 1)), api.Meta{Super: api.Super{Area: 1}, Count: n + 1}, true, api.OK)
			p := api.Pend{At: at, Bytes: begins(0, 1)}
			holdOrderly(t, c, waiting(d, p), api.Meta{}, false, api.OK)
			holdOrderly(t, c, waiting(d, p, api.Pend{At: at, Bytes: make([]byte, size)}), api.Meta{}, true, api.OK)
		}
	}
}

// P12.1, P12.2: the next generation is Boot, times 65,536, and Turn and one: it is that which Orderly looks for, and that with which the journal is written anew.
func TestNextGeneration(t *testing.T) {
	c := sample()
	for _, boot := range boots() {
		for _, turn := range []int{0, 1, 2, 254, 255, 256, 32767, 65533, 65534, 65535} {
			want := uint64(boot)<<16 + uint64(turn) + 1
			m := api.Meta{Super: api.Super{Boot: boot, Gen: 5}, Count: 4, Turn: turn}
			base := told(c, m)
			for _, gen := range []uint64{want, want - 1, want + 1, want ^ 1<<16, want ^ 1<<32, want ^ 1<<47, want ^ 1<<48, want ^ 1<<63} {
				holdOrderly(t, c, laid(base, place(c, 1, 2), begins(gen, 1)), m, gen != want && gen != 5, api.OK)
			}
			if turn == lastOne {
				holdCommit(t, c, base, m, gone(0), api.Meta{}, nil, api.ErrFull)
				continue
			}
			out, _ := mustCommit(t, c, base, m, gone(0))
			if out.Super != (api.Super{Boot: boot, Area: 1, Gen: want}) || out.Turn != turn+1 {
				t.Errorf("behind %+v: %+v", m, out)
			}
		}
	}
}

// P12.1: no sector but those of the areas counts: neither the super's, even where one begins as a note, nor those behind the areas.
func TestOrderlyOtherSectors(t *testing.T) {
	for _, c := range configs() {
		s := api.Super{Boot: 0x01000000, Gen: 7<<32 | 13<<16}
		m := api.Meta{Super: s, Count: 1}
		d := told(c, m)
		if !bytes.Equal(d.Sectors[0].Bytes[:9], begins(s.Gen, 1)[:9]) {
			t.Fatalf("the super %v", d.Sectors[0].Bytes)
		}
		holdOrderly(t, c, d, m, true, api.OK)
		for at := range d.Sectors {
			if at >= place(c, 0, 1) && at < place(c, 2, 0) {
				continue
			}
			for _, gen := range []uint64{m.Super.Gen, next(m)} {
				holdOrderly(t, c, laid(d, at, begins(gen, 1)), m, true, api.OK)
			}
		}
	}
}

// P12.2: each number of boots at the edges, of each area; Turn is 0 behind a boot, and all else is as it was.
func TestBoot(t *testing.T) {
	for _, c := range []api.Config{small(), sample(), config(3, 16, 32)} {
		for _, s := range supers() {
			for _, table := range [][]api.Rec{nil, {one(2)}, {one(0), two(1), one(2)}} {
				for _, turn := range []int{0, 1, 65534, 65535} {
					for _, count := range []int{0, 1, c.Area - 1, c.Area} {
						m := api.Meta{Super: s, Count: count, Turn: turn, Table: table}
						d := bare(c)
						if s.Boot == top {
							holdBoot(t, c, d, m, api.Meta{}, nil, api.ErrFull)
							continue
						}
						want := m
						want.Super.Boot, want.Turn = s.Boot+1, 0
						holdBoot(t, c, d, m, want, []api.Act{write(0, slot(1, row(want.Super))), flush()}, api.OK)
					}
				}
			}
		}
	}
}

// P12.2: whatever stands in the super's cell, or waits there: ErrBusy, and ErrFull, are super.Plan's; a note that is put behind others asks neither.
func TestCells(t *testing.T) {
	c := sample()
	for name, d := range cells(c) {
		for _, m := range []api.Meta{{}, known(0), known(3), known(4)} {
			for at := range 2 {
				for _, x := range []api.Disk{d, waiting(d, api.Pend{At: at, Bytes: slot(40, row(m.Super))}), waiting(d, api.Pend{At: at, Bytes: bytes.Repeat([]byte{255}, size)})} {
					holdAll(t, c, x, m, note(two(1)))
				}
			}
		}
		if t.Failed() {
			t.Fatal(name)
		}
	}
	busy := waiting(told(c, known(4)), api.Pend{At: 1, Bytes: slot(6, nil)})
	full := laid(told(c, known(4)), 1, bytes.Repeat([]byte{255}, size))
	holdBoot(t, c, busy, known(4), api.Meta{}, nil, api.ErrBusy)
	holdBoot(t, c, full, known(4), api.Meta{}, nil, api.ErrFull)
	holdCommit(t, c, busy, known(4), gone(1), api.Meta{}, nil, api.ErrBusy)
	holdCommit(t, c, full, known(4), gone(1), api.Meta{}, nil, api.ErrFull)
	for _, d := range []api.Disk{busy, full} {
		want := known(3)
		want.Count = 4
		acts := []api.Act{write(place(c, 1, 3), text(want.Super.Gen, 3, gone(1))), flush()}
		holdCommit(t, c, d, known(3), gone(1), want, acts, api.OK)
	}
}

// P12.2: a note behind each number of others, into each area, of each config; the note that fills the area is put behind them, too.
func TestCommit(t *testing.T) {
	for _, c := range configs() {
		for area := range 2 {
			for count := range c.Area {
				for i, b := range notes() {
					for _, turn := range []int{0, 65534, 65535} {
						m := known(count)
						m.Super.Area, m.Turn = area, turn
						m.Super.Gen += uint64(i)
						table, _ := put(m.Table, b)
						want := api.Meta{Super: m.Super, Count: count + 1, Turn: turn, Table: table}
						acts := []api.Act{write(place(c, area, count), text(m.Super.Gen, count, b)), flush()}
						holdCommit(t, c, bare(c), m, b, want, acts, api.OK)
					}
				}
			}
		}
	}
}

// P12.2: where the area is full: tables of no record to three, each note behind each of them, into each area.
func TestAnew(t *testing.T) {
	for _, c := range configs() {
		for area := range 2 {
			for _, turn := range []int{0, 65534, 65535} {
				for _, table := range tables() {
					m := api.Meta{Super: api.Super{Boot: 3, Area: area, Gen: 5}, Count: c.Area, Turn: turn, Table: table}
					d := told(c, m)
					for _, b := range notes() {
						if turn == lastOne {
							holdCommit(t, c, d, m, b, api.Meta{}, nil, api.ErrFull)
							continue
						}
						holdAnew(t, c, d, m, b)
					}
				}
			}
		}
	}
}

// holdAnew holds that the journal is written anew: the notes of the table behind the note, a flush, the super, a flush.
func holdAnew(t *testing.T, c api.Config, d api.Disk, m api.Meta, b []byte) {
	t.Helper()
	table, _ := put(m.Table, b)
	s := api.Super{Boot: 3, Area: 1 - m.Super.Area, Gen: 3<<16 + uint64(m.Turn) + 1}
	var acts []api.Act
	for n, r := range table {
		acts = append(acts, write(place(c, s.Area, n), text(s.Gen, n, note(r))))
	}
	acts = append(acts, flush(), write(1, slot(8, row(s))), flush())
	if len(acts) != len(table)+3 {
		t.Fatalf("%d acts", len(acts))
	}
	holdCommit(t, c, d, m, b, api.Meta{Super: s, Count: len(table), Turn: m.Turn + 1, Table: table}, acts, api.OK)
}

// P12.2: tables of three records fill the least area: the note behind that writes the journal anew, too.
func TestAnewFills(t *testing.T) {
	c := small()
	d := bare(c)
	m, l := mustBoot(t, c, d, api.Meta{})
	d = done(t, d, l...)
	for pair := range 3 {
		m, l = mustCommit(t, c, d, m, note(one(pair)))
		d = done(t, d, l...)
	}
	for n := range 10 {
		b := note(two(n % 3))
		if n/3%2 == 1 {
			b = note(one(n % 3))
		}
		m, l = mustCommit(t, c, d, m, b)
		if len(l) != 6 || m.Count != 3 || m.Turn != n+1 || m.Super != (api.Super{Boot: 1, Area: 1 - n%2, Gen: 65537 + uint64(n)}) {
			t.Fatalf("%+v, %s", m, brief(l))
		}
		d = done(t, d, l...)
		kept := m
		kept.Turn = 0
		holdOpen(t, c, d, kept, api.OK)
	}
}

// P12.2: a note that is none, whether there is room for it or not.
func TestNoNote(t *testing.T) {
	for _, c := range []api.Config{small(), sample()} {
		for name, b := range wrongNotes() {
			for count := range c.Area + 1 {
				for _, turn := range []int{0, lastOne} {
					m := known(count)
					m.Turn = turn
					holdCommit(t, c, told(c, m), m, b, api.Meta{}, nil, api.ErrRec)
					busy := waiting(told(c, m), api.Pend{At: 0, Bytes: bytes.Repeat([]byte{255}, size)})
					holdCommit(t, c, busy, m, b, api.Meta{}, nil, api.ErrRec)
				}
			}
			if t.Failed() {
				t.Fatal(name)
			}
		}
	}
}

// P12.2: what the disk tells, or what stands in the areas, or waits there, counts for nothing: what is known does.
func TestWhateverStands(t *testing.T) {
	c := sample()
	for _, m := range []api.Meta{{}, known(0), known(3), known(4)} {
		boot, boots := mustBoot(t, c, bare(c), m)
		out, acts := mustCommit(t, c, bare(c), m, note(one(1)))
		for at := 2; at < many(c); at++ {
			for _, x := range [][]byte{nil, begins(m.Super.Gen, 1), begins(next(m), 1), text(m.Super.Gen, (at-2)%4, gone(3))} {
				d := laid(bare(c), at, x)
				holdBoot(t, c, d, m, boot, boots, api.OK)
				holdCommit(t, c, d, m, note(one(1)), out, acts, api.OK)
				if x != nil {
					d = waiting(bare(c), api.Pend{At: at, Bytes: x})
					holdBoot(t, c, d, m, boot, boots, api.OK)
					holdCommit(t, c, d, m, note(one(1)), out, acts, api.OK)
				}
			}
		}
	}
}

// P12.2: none of the calls asks for room in the cache: with room for all acts, for just the super's writes, and for one too few, the acts are the same; that of a write finds the room, or not.
func TestRoom(t *testing.T) {
	c := sample()
	for _, m := range []api.Meta{{}, known(0), known(3), known(4)} {
		d := told(c, m)
		boot, boots := mustBoot(t, c, d, m)
		out, acts := mustCommit(t, c, d, m, note(one(1)))
		for _, many := range []int{0, 1, 60, 61, 62, 63, 64} {
			x := crowded(d, many)
			holdBoot(t, c, x, m, boot, boots, api.OK)
			holdCommit(t, c, x, m, note(one(1)), out, acts, api.OK)
			is, e := toldOrderly(c, x, m)
			holdOrderly(t, c, x, m, is, e)
			_, e = disk.Write(x, boots[0].At, boots[0].Bytes)
			if (e == api.ErrFull) != (many == room) {
				t.Errorf("behind %d writes: error %d", many, e)
			}
			if many == room-1 {
				done(t, x, boots...)
			}
		}
	}
}

// P12.1, P12.2: a disk that has as many sectors as the config's, and those that have one less, one more, or far too few or many.
func TestSectors(t *testing.T) {
	for _, c := range configs() {
		full := told(c, known(3))
		holdAll(t, c, full, known(3), note(one(1)))
		for _, n := range []int{0, 1, 2, 2 + c.Area, 2 + 2*c.Area, many(c) - 1, many(c) + 1, many(c) + 4, 1024} {
			d := disk.Twin(full)
			d.Sectors = d.Sectors[:min(n, len(d.Sectors))]
			for len(d.Sectors) < n {
				d.Sectors = append(d.Sectors, api.Sector{Bytes: make([]byte, size)})
			}
			refuseDisk(t, c, d)
		}
	}
}

// P12.1, P12.2: a config and a disk of another one: what counts is how many sectors it has.
func TestOtherConfig(t *testing.T) {
	for _, a := range configs() {
		for _, b := range configs() {
			for _, m := range []api.Meta{known(2), known(b.Area)} {
				d := told(b, m)
				holdAll(t, a, d, m, note(one(1)))
				if many(a) != many(b) {
					refuseDisk(t, a, d)
				}
			}
		}
	}
}

// P12.1, P12.2: configs that may not be, each for one field's sake, with disks of sizes that would fit; areas of one sector among them.
func TestWrongConfig(t *testing.T) {
	fields := map[string]func(c *api.Config) *int{
		"Pairs":  func(c *api.Config) *int { return &c.Pairs },
		"Tracks": func(c *api.Config) *int { return &c.Tracks },
		"Area":   func(c *api.Config) *int { return &c.Area },
		"Most":   func(c *api.Config) *int { return &c.Most },
		"Window": func(c *api.Config) *int { return &c.Window },
		"Quiet":  func(c *api.Config) *int { return &c.Quiet },
	}
	beside := map[string][]int{"Pairs": {0, 4, 1}, "Tracks": {0, 17}, "Area": {0, 1, 2, 3, 33}, "Most": {0, 3}, "Window": {0, 5}, "Quiet": {3, 65}}
	for name, field := range fields {
		for _, wrong := range append(beside[name], math.MaxInt, math.MinInt, -1) {
			c := sample()
			*field(&c) = wrong
			for _, m := range []api.Meta{{}, known(0), known(1), known(4)} {
				holdCheck(t, c, m, api.ErrBad)
			}
			refuseDisk(t, c, bare(sample()))
			if fits := many(c); fits > 0 && fits <= 1024 {
				refuseDisk(t, c, bare(c))
			}
			refuseDisk(t, c, api.Disk{})
		}
	}
	c := small()
	for c.Area = range 3 {
		holdCheck(t, c, api.Meta{}, api.ErrBad)
		refuseDisk(t, c, bare(c))
	}
	holdCheck(t, api.Config{}, api.Meta{}, api.ErrBad)
	refuseDisk(t, api.Config{}, api.Disk{})
	refuseDisk(t, api.Config{}, bare(sample()))
}

// P12.1, P12.2: disks that may not be, for the sake of one thing each; Check asks for none.
func TestWrongDisk(t *testing.T) {
	refuse := func(turn func(d *api.Disk)) {
		t.Helper()
		d := told(sample(), known(3))
		turn(&d)
		refuseDisk(t, sample(), d)
	}
	for _, at := range []int{0, 1, 2, 5, 6, 9, 10, 85} {
		refuse(func(d *api.Disk) { d.Sectors[at].Bytes = make([]byte, size-1) })
		refuse(func(d *api.Disk) { d.Sectors[at].Bytes = make([]byte, size+1) })
		refuse(func(d *api.Disk) { d.Sectors[at].Bytes = nil })
		refuse(func(d *api.Disk) { d.Sectors[at] = api.Sector{Bytes: begins(5, 1), Bad: true} })
		refuse(func(d *api.Disk) { d.Cache = []api.Pend{{At: at, Bytes: make([]byte, size-1)}} })
		refuse(func(d *api.Disk) { d.Cache = []api.Pend{{At: at}} })
	}
	refuse(func(d *api.Disk) { *d = crowded(*d, room+1) })
	for _, at := range []int{-1, 86, 1024, math.MinInt, math.MaxInt} {
		refuse(func(d *api.Disk) { d.Cache = []api.Pend{{At: at, Bytes: make([]byte, size)}} })
	}
}

// asked is what is handed in.
type asked struct {
	c api.Config
	d api.Disk
	m api.Meta
	b []byte
}

// fault turns what is asked, so that some calls tell an error, if no other one comes first.
type fault struct {
	e     api.Errno
	calls string // o: Open, c: Check, y: Orderly, b: Boot, m: Commit
	turn  func(a *asked)
}

// faults are in the order in which the chapter names their errors; they are those of a journal that has to be written anew (so a Turn of 65,535 is one). The write that waits is of the slot of the super's cell that does not count.
func faults() []fault {
	return []fault{
		{api.ErrBad, "ocybm", func(a *asked) { a.c.Quiet = 3 }},
		{api.ErrBad, "oybm", func(a *asked) { a.d.Sectors[8].Bytes = nil }},
		{api.ErrBad, "oybm", func(a *asked) { a.d.Sectors = append(a.d.Sectors, api.Sector{Bytes: make([]byte, size)}) }},
		{api.ErrBad, "cybm", func(a *asked) { a.m.Super.Area = 2 }},
		{api.ErrBad, "cybm", func(a *asked) { a.m.Count = 4 }},
		{api.ErrBad, "cybm", func(a *asked) { a.m.Turn = -1 }},
		{api.ErrBad, "cybm", func(a *asked) { a.m.Table = []api.Rec{one(0), one(0)} }},
		{api.ErrSuper, "o", func(a *asked) { a.d.Sectors[0].Bytes = slot(7, row(a.m.Super)[:12]) }},
		{api.ErrRec, "o", func(a *asked) { a.d.Sectors[6].Bytes = text(known(3).Super.Gen, 1, gone(3)) }},
		{api.ErrRec, "m", func(a *asked) { a.b = gone(3) }},
		{api.ErrFull, "b", func(a *asked) { a.m.Super.Boot = top }},
		{api.ErrFull, "m", func(a *asked) { a.m.Turn |= lastOne }},
		{api.ErrBusy, "bm", func(a *asked) { a.d.Cache = append(a.d.Cache, api.Pend{At: 1, Bytes: make([]byte, size)}) }},
		{api.ErrFull, "bm", func(a *asked) { binary.BigEndian.PutUint32(a.d.Sectors[0].Bytes, top) }},
		{api.OK, "", func(a *asked) { a.d = crowded(a.d, room) }}, // none: no call asks for room in the cache
	}
}

// P1, P12.1, P12.2: of several errors the one named first is told, of all of them together.
func TestFirstError(t *testing.T) {
	all := faults()
	for which := range 1 << len(all) {
		c := small()
		a := asked{c, told(c, known(3)), known(3), note(two(1))}
		said := map[rune]api.Errno{}
		for i, f := range all {
			if which>>i&1 == 0 {
				continue
			}
			f.turn(&a)
			for _, call := range f.calls {
				if said[call] == api.OK {
					said[call] = f.e
				}
			}
		}
		open, oe := meta.Open(a.c, a.d)
		ce := meta.Check(a.c, a.m)
		is, ye := meta.Orderly(a.c, a.d, a.m)
		boot, bl, be := meta.Boot(a.c, a.d, a.m)
		out, ml, me := meta.Commit(a.c, a.d, a.m, a.b)
		for call, e := range map[rune]api.Errno{'o': oe, 'c': ce, 'y': ye, 'b': be, 'm': me} {
			if e != said[call] {
				t.Errorf("the faults %b: the call %c: error %d; want %d", which, call, e, said[call])
			}
		}
		if oe != api.OK && !sameMeta(open, api.Meta{}) || ye != api.OK && is ||
			be != api.OK && (!sameMeta(boot, api.Meta{}) || len(bl) > 0) || me != api.OK && (!sameMeta(out, api.Meta{}) || len(ml) > 0) {
			t.Errorf("the faults %b: something is told beside an error", which)
		}
		if which%8 == 0 { // those whose config and disk may be
			holdAll(t, a.c, a.d, a.m, a.b)
			a.m.Count-- // where there is room for the note, the super is not asked for
			holdAll(t, a.c, a.d, a.m, a.b)
		}
		if t.Failed() {
			t.FailNow()
		}
	}
}

const behind = "----"

func roomy(b []byte) []byte { return append(bytes.Clone(b), behind...)[:len(b)] }

// handed is what is asked in other memory, all lists of which have more behind their ends.
func handed(a asked) asked {
	a.d = disk.Twin(a.d)
	for i := range a.d.Sectors {
		a.d.Sectors[i].Bytes = roomy(a.d.Sectors[i].Bytes)
	}
	for i := range a.d.Cache {
		a.d.Cache[i].Bytes = roomy(a.d.Cache[i].Bytes)
	}
	a.d.Sectors = append(a.d.Sectors, api.Sector{Bytes: roomy(nil)})[:len(a.d.Sectors)]
	a.d.Cache = append(a.d.Cache, api.Pend{At: -7}, api.Pend{At: -7})[:len(a.d.Cache)]
	a.m.Table = append(slices.Clone(a.m.Table), api.Rec{Pair: -7}, api.Rec{Pair: -7})[:len(a.m.Table)]
	a.b = roomy(a.b)
	return a
}

// isAsHanded tells whether all of what is asked is as handed made it.
func isAsHanded(a, want asked) bool {
	for _, b := range append(partsOf(a), a.d.Sectors[:len(a.d.Sectors)+1][len(a.d.Sectors)].Bytes) {
		if string(b[len(b):len(b)+len(behind)]) != behind {
			return false
		}
	}
	for _, p := range a.d.Cache[len(a.d.Cache) : len(a.d.Cache)+2] {
		if p.At != -7 || p.Bytes != nil {
			return false
		}
	}
	for _, r := range a.m.Table[len(a.m.Table) : len(a.m.Table)+2] {
		if r != (api.Rec{Pair: -7}) {
			return false
		}
	}
	return disk.Same(a.d, want.d) && sameMeta(a.m, want.m) && bytes.Equal(a.b, want.b)
}

// partsOf are all bytes of what is asked.
func partsOf(a asked) [][]byte {
	l := [][]byte{a.b}
	for _, s := range a.d.Sectors {
		l = append(l, s.Bytes)
	}
	for _, p := range a.d.Cache {
		l = append(l, p.Bytes)
	}
	return l
}

// spoil turns all of what is asked, also what is in the capacities.
func spoil(a asked) {
	spoilBytes(partsOf(a)...)
	clear(a.d.Sectors[:cap(a.d.Sectors)])
	clear(a.d.Cache[:cap(a.d.Cache)])
	spoilTable(a.m.Table)
}

func spoilBytes(parts ...[]byte) {
	for _, b := range parts {
		b = b[:cap(b)]
		for i := range b {
			b[i] += 99
		}
	}
}

func spoilTable(t []api.Rec) {
	t = t[:cap(t)]
	for i := range t {
		t[i].Born += 99
	}
}

// kinds are what is asked in all ways that make a difference to the answers' memory.
func kinds() []asked {
	c, m := sample(), known(4)
	m.Table = []api.Rec{one(0), one(1), one(2)}
	late := waiting(told(c, known(3)), api.Pend{At: place(c, 1, 3), Bytes: text(known(3).Super.Gen, 3, note(two(1)))})
	return []asked{
		{c, bare(c), api.Meta{}, note(one(1))},
		{c, told(c, known(2)), known(2), note(one(1))},
		{c, told(c, known(2)), known(2), gone(0)},
		{c, told(c, m), m, note(two(1))},
		{c, told(c, m), m, gone(1)},
		{c, told(c, known(4)), known(4), note(two(1))},
		{c, crowded(told(c, known(4)), room), known(4), gone(2)},
		{c, late, known(3), note(one(0))},
		{c, laid(told(c, m), place(c, 1, 1), nil), m, gone(2)},
	}
}

// P12.3: what is handed in is as it was, also behind its end; also where the calls tell an error.
func TestOnlyRead(t *testing.T) {
	for i, want := range kinds() {
		for _, f := range append(faults(), fault{turn: func(a *asked) {}}) {
			want := want
			want.d = disk.Twin(want.d)
			f.turn(&want)
			a := handed(want)
			meta.Open(a.c, a.d)
			meta.Check(a.c, a.m)
			meta.Orderly(a.c, a.d, a.m)
			meta.Boot(a.c, a.d, a.m)
			meta.Commit(a.c, a.d, a.m, a.b)
			if !isAsHanded(a, want) {
				t.Errorf("kind %d: what was handed in is another one", i)
			}
		}
	}
}

// answers are all that the calls answer.
type answers struct {
	open, boot, out   api.Meta
	booting, noting   []api.Act
	openE, bootE, ouE api.Errno
}

func answersOf(a asked) answers {
	var x answers
	x.open, x.openE = meta.Open(a.c, a.d)
	x.boot, x.booting, x.bootE = meta.Boot(a.c, a.d, a.m)
	x.out, x.noting, x.ouE = meta.Commit(a.c, a.d, a.m, a.b)
	return x
}

func (x answers) same(y answers) bool {
	return sameMeta(x.open, y.open) && sameMeta(x.boot, y.boot) && sameMeta(x.out, y.out) &&
		sameActs(x.booting, y.booting) && sameActs(x.noting, y.noting) && x.openE == y.openE && x.bootE == y.bootE && x.ouE == y.ouE
}

// P12.3: a change of an answer changes no other one, nor what was handed in; a change of that changes no answer.
func TestNewMemory(t *testing.T) {
	for i, want := range kinds() {
		a := handed(want)
		first, second, kept := answersOf(a), answersOf(a), answersOf(handed(want))
		if first.bootE != api.OK || first.ouE != api.OK {
			t.Fatalf("kind %d: the errors %d, %d", i, first.bootE, first.ouE)
		}
		for _, l := range [][]api.Act{first.booting, first.noting} {
			for _, x := range l {
				spoilBytes(x.Bytes)
			}
			clear(l[:cap(l)])
		}
		spoilTable(first.open.Table)
		spoilTable(first.boot.Table)
		spoilTable(first.out.Table)
		if !second.same(kept) || !answersOf(a).same(kept) || !isAsHanded(a, want) {
			t.Fatalf("kind %d: an answer shares memory", i)
		}
		spoil(a)
		if !second.same(kept) {
			t.Fatalf("kind %d: an answer shares memory with what was handed in", i)
		}
	}
}

// P12.3: no two lists of one answer share any memory, not even behind their ends.
func TestPartsOfAnswers(t *testing.T) {
	for i, a := range kinds() {
		for which := range 8 {
			x, kept := answersOf(a), answersOf(a)
			for _, l := range []*[]api.Act{&x.booting, &x.noting} {
				if which < len(*l) {
					spoilBytes((*l)[which].Bytes)
					(*l)[which] = api.Act{}
				}
			}
			for _, l := range []*[]api.Act{&kept.booting, &kept.noting} {
				if which < len(*l) {
					(*l)[which] = api.Act{}
				}
			}
			if !x.same(kept) {
				t.Fatalf("kind %d, act %d: what is answered shares memory with itself", i, which)
			}
		}
	}
}

// orderly are disks with an empty cache that are orderly for what is known, which is what they tell, but for the Turn; of each there are several leftovers in the areas, and in the super's other slot.
func orderly(c api.Config) []asked {
	var l []asked
	for _, turn := range []int{0, 7, 65534} {
		for area := range 2 {
			for _, table := range [][]api.Rec{nil, {two(1)}, {one(0), one(2)}, {two(0), one(1), two(2)}} {
				for count := len(table); count <= c.Area; count++ {
					m := api.Meta{Super: api.Super{Boot: 3, Area: area, Gen: 131072 + 5}, Count: count, Turn: turn, Table: table}
					for _, d := range leftovers(c, m) {
						l = append(l, asked{c: c, d: d, m: m})
					}
				}
			}
		}
	}
	return l
}

func leftovers(c api.Config, m api.Meta) []api.Disk {
	clean := told(c, m)
	older, bad, near := disk.Twin(clean), disk.Twin(clean), disk.Twin(clean)
	for area := range 2 {
		for n := range c.Area {
			if area == m.Super.Area && n < m.Count {
				continue
			}
			at := place(c, area, n)
			older.Sectors[at].Bytes = text(m.Super.Gen-1, n, note(one(n%3)))
			bad.Sectors[at] = api.Sector{Bytes: make([]byte, size), Bad: true}
			near.Sectors[at].Bytes = text([]uint64{m.Super.Gen + 1, next(m) + 1, next(m) - 1}[n%3], n, note(two(n%3)))
		}
	}
	bad.Sectors[1] = api.Sector{Bytes: make([]byte, size), Bad: true}
	older.Sectors[0], older.Sectors[1] = older.Sectors[1], older.Sectors[0]
	return []api.Disk{clean, older, bad, near}
}

// P12.4: of an orderly disk with an empty cache: behind a crash after each number of a note's acts, with every fate of the writes that wait, it tells the table that was, or the one behind the note; behind all of these acts the latter.
func TestCrash(t *testing.T) {
	for _, c := range []api.Config{small(), sample()} {
		for _, a := range orderly(c) {
			holdOrderly(t, c, a.d, a.m, true, api.OK)
			was := a.m
			was.Turn = 0
			holdOpen(t, c, a.d, was, api.OK)
			for _, b := range notes() {
				now, l := mustCommit(t, c, a.d, a.m, b)
				end := now
				end.Turn = 0
				crashes(t, a.d, l, func(many int, left api.Disk) {
					m := mustOpen(t, c, left)
					if !sameMeta(m, end) && (many == len(l) || !sameMeta(m, was)) {
						t.Errorf("%+v, %d acts of %s: %+v", a.m, many, brief(l), m)
					}
				})
				holdOpen(t, c, done(t, a.d, l...), end, api.OK)
				if t.Failed() {
					t.FailNow()
				}
			}
		}
	}
}

// started is a disk behind a boot, and what is known then.
type started struct {
	d api.Disk
	m api.Meta
}

// restarts hands on what comes of a disk behind a boot: also behind crashes in the midst of that many boots ahead of it.
func restarts(t *testing.T, c api.Config, d api.Disk, crashed int, hand func(x started)) {
	t.Helper()
	m, l := mustBoot(t, c, d, mustOpen(t, c, d))
	hand(started{done(t, d, l...), m})
	if crashed == 0 {
		return
	}
	seen := []api.Disk{d}
	crashes(t, d, l, func(_ int, left api.Disk) {
		if !slices.ContainsFunc(seen, func(x api.Disk) bool { return disk.Same(x, left) }) {
			seen = append(seen, left)
			restarts(t, c, left, crashed-1, hand)
		}
	})
	restarts(t, c, d, crashed-1, hand) // all of it was lost
}

// holdNotes holds that each note's acts find an orderly disk: behind each note, and behind each crash in the midst of its acts, and boots, up to that depth.
func holdNotes(t *testing.T, c api.Config, x started, all [][]byte, depth int) {
	t.Helper()
	was := x.m
	was.Turn = 0
	holdOrderly(t, c, x.d, x.m, true, api.OK)
	holdOpen(t, c, x.d, was, api.OK)
	if t.Failed() {
		t.FailNow()
	}
	if depth == 0 {
		return
	}
	for _, b := range all {
		now, l := mustCommit(t, c, x.d, x.m, b)
		holdNotes(t, c, started{done(t, x.d, l...), now}, all, depth-1)
		crashes(t, x.d, l, func(_ int, left api.Disk) {
			restarts(t, c, left, 1, func(y started) {
				if !slices.Equal(y.m.Table, x.m.Table) && !slices.Equal(y.m.Table, now.Table) {
					t.Fatalf("%+v behind a crash; it was %+v, and %+v was to be", y.m, x.m, now)
				}
				holdNotes(t, c, y, all, depth-1)
			})
		})
	}
}

// holdRun holds it from x on, with so many notes ahead, one behind the other.
func holdRun(t *testing.T, c api.Config, x started, all [][]byte, depth int) {
	t.Helper()
	for n := range 2*c.Area + 2 {
		b := all[n%len(all)]
		holdNotes(t, c, x, [][]byte{b}, depth)
		m, l := mustCommit(t, c, x.d, x.m, b)
		x = started{done(t, x.d, l...), m}
	}
}

// P12.4: from a disk of noughts on, booted first, behind crashes in the midst of the first boots, too: all crashes in the midst of the acts of one more note, or two, and of the boots behind these.
func TestFromNoughts(t *testing.T) {
	all := [][]byte{note(one(0)), note(two(1)), gone(0), note(one(2)), note(two(0))}
	for _, c := range []api.Config{small(), sample()} {
		restarts(t, c, bare(c), 2, func(x started) { holdRun(t, c, x, all, 1) })
		restarts(t, c, bare(c), 0, func(x started) { holdRun(t, c, x, all[:3], 2) })
	}
}

// P12.4: a crash in the midst of a journal that is written anew leaves notes of that generation in the other area: it is the boot behind it that makes the disk orderly.
func TestBootMakesOrderly(t *testing.T) {
	c := small()
	restarts(t, c, bare(c), 0, func(x started) {
		var l []api.Act
		for n := range 4 {
			var m api.Meta
			m, l = mustCommit(t, c, x.d, x.m, note(one(n%3)))
			if n < 3 {
				x = started{done(t, x.d, l...), m}
			}
		}
		left := crashed(t, done(t, x.d, l[:4]...)) // the three notes, and the flush behind them
		m := mustOpen(t, c, left)
		holdOrderly(t, c, left, m, false, api.OK)
		restarts(t, c, left, 2, func(y started) { holdOrderly(t, c, y.d, y.m, true, api.OK) })
	})
}

// P12.4: the last journals that a boot writes anew, and the next boot behind them, which counts its turns from 0 on.
func TestLastTurns(t *testing.T) {
	c := small()
	d := bare(c)
	m, l := mustBoot(t, c, d, api.Meta{})
	d, m.Turn = done(t, d, l...), lastOne-3
	for n := 0; ; n++ {
		out, l, e := meta.Commit(c, d, m, note(one(n%2)))
		if e == api.ErrFull {
			break
		}
		if e != api.OK || out.Turn > lastOne {
			t.Fatalf("%+v, error %d", out, e)
		}
		holdNotes(t, c, started{d, m}, [][]byte{note(one(n % 2))}, 1)
		d, m = done(t, d, l...), out
	}
	if m.Turn != lastOne || m.Super.Gen != 131071 || m.Count != 3 {
		t.Fatalf("%+v", m)
	}
	holdOrderly(t, c, d, m, true, api.OK)
	m, l = mustBoot(t, c, d, m)
	d = done(t, d, l...)
	holdNotes(t, c, started{d, m}, [][]byte{note(one(2)), gone(0)}, 2)
	m, _ = mustCommit(t, c, d, m, note(one(2)))
	if m.Super.Gen != 131073 || m.Turn != 1 {
		t.Fatalf("%+v", m)
	}
}

// anyLeft is what is left of d behind a crash in the midst of these acts.
func anyLeft(t *testing.T, r *rand.Rand, d api.Disk, l []api.Act) api.Disk {
	t.Helper()
	d = done(t, d, l[:r.IntN(len(l)+1)]...)
	fates := make([]uint8, r.IntN(len(d.Cache)+2))
	for i := range fates {
		fates[i] = uint8(r.Uint32())
	}
	return crashed(t, d, fates...)
}

// anyBoot is what comes of d behind a boot, with crashes in the midst of some ahead of it.
func anyBoot(t *testing.T, r *rand.Rand, c api.Config, d api.Disk) started {
	t.Helper()
	for {
		m, l := mustBoot(t, c, d, mustOpen(t, c, d))
		if r.IntN(3) > 0 {
			return started{done(t, d, l...), m}
		}
		d = anyLeft(t, r, d, l)
	}
}

// P12.4: over long runs of notes, crashes and boots, from a disk of noughts on.
func TestLongRuns(t *testing.T) {
	r := seeded(1)
	for _, c := range configs() {
		x := anyBoot(t, r, c, bare(c))
		for range 300 {
			now, l := mustCommit(t, c, x.d, x.m, anyNote(r))
			was := x.m.Table
			if r.IntN(4) > 0 {
				x = started{done(t, x.d, l...), now}
			} else {
				x = anyBoot(t, r, c, anyLeft(t, r, x.d, l))
				if !slices.Equal(x.m.Table, was) && !slices.Equal(x.m.Table, now.Table) {
					t.Fatalf("%+v behind a crash; it was %+v, and %+v was to be", x.m, was, now)
				}
			}
			kept := x.m
			kept.Turn = 0
			holdOrderly(t, c, x.d, x.m, true, api.OK)
			holdOpen(t, c, x.d, kept, api.OK)
			if t.Failed() {
				t.FailNow()
			}
		}
	}
}

func anyNote(r *rand.Rand) []byte {
	if r.IntN(4) == 0 {
		return gone(r.IntN(3))
	}
	x := api.Rec{Pair: r.IntN(3), Born: 1 + r.Uint32N(top), Epoch: 1 + r.Uint32N(top), Lead: r.IntN(2), Phase: uint8(1 + r.IntN(3)), Alone: r.IntN(2) == 0}
	x.From = x.Lead
	if x.Phase == 1 {
		x.From = r.IntN(2)
		x.Quick = x.From != x.Lead && r.IntN(2) == 0
	}
	return note(x)
}

// anyMeta is what may be known, or nearly.
func anyMeta(r *rand.Rand, c api.Config) api.Meta {
	odd, all, wrong := far(), tables(), wrongTables()
	m := api.Meta{
		Super: api.Super{Boot: boots()[r.IntN(len(boots()))], Area: r.IntN(2), Gen: uint64(r.IntN(4)) * 65537},
		Count: r.IntN(c.Area + 1),
		Turn:  []int{0, 1, 2, 65534, 65535}[r.IntN(5)],
		Table: all[r.IntN(len(all))],
	}
	switch r.IntN(12) {
	case 0:
		m.Super.Area = odd[r.IntN(len(odd))]
	case 1:
		m.Count = odd[r.IntN(len(odd))]
	case 2:
		m.Turn = odd[r.IntN(len(odd))]
	case 3:
		for _, t := range wrong {
			if r.IntN(len(wrong)) == 0 {
				m.Table = t
			}
		}
	case 4:
		m.Super.Gen = next(m)
	}
	return m
}

// anyDisk is one of a config, whose areas have many notes of the generations that are known, or were.
func anyDisk(r *rand.Rand, c api.Config, m api.Meta) api.Disk {
	d := bare(c)
	gens := []uint64{m.Super.Gen, next(m), m.Super.Gen + 1, 0}
	sector := func(at int) []byte {
		if at < 2 {
			return slot(uint32(r.IntN(4)), row(api.Super{Boot: m.Super.Boot, Area: r.IntN(2) + r.IntN(20)/19, Gen: gens[r.IntN(4)]}))
		}
		b := anyNote(r)
		if r.IntN(20) == 0 {
			b[r.IntN(len(b))]++
		}
		return text(gens[r.IntN(4)], (at-2)%c.Area, b)
	}
	for at := range place(c, 2, 0) {
		if r.IntN(3) > 0 {
			d.Sectors[at].Bytes = sector(at)
		} else if r.IntN(3) == 0 {
			d.Sectors[at] = api.Sector{Bytes: make([]byte, size), Bad: true}
		}
	}
	for range r.IntN(4) {
		at := r.IntN(place(c, 2, 0))
		d = waiting(d, api.Pend{At: at, Bytes: sector(at)})
	}
	if r.IntN(2) == 0 {
		d = crowded(d, r.IntN(room+1))
	}
	return d
}

// P1: each call ends, and none panics, whatever comes; the answers are those of the chapter's words.
func TestWhatever(t *testing.T) {
	r := seeded(2)
	all, odd := []api.Config{small(), sample(), config(3, 2, 6)}, far()
	for range 10000 {
		c := all[r.IntN(len(all))]
		m := anyMeta(r, c)
		d, b := anyDisk(r, c, m), anyNote(r)
		switch r.IntN(14) {
		case 0:
			b[r.IntN(len(b))] += uint8(r.Uint32())
		case 1:
			b = make([]byte, []int{0, 1, 13, 15, 21, 300}[r.IntN(6)])
		case 2:
			c = all[r.IntN(len(all))]
		case 3:
			c.Tracks, c.Area = r.IntN(20)-1, r.IntN(36)
		case 4:
			d.Sectors[r.IntN(len(d.Sectors))].Bytes = make([]byte, r.IntN(size))
		case 5:
			d.Cache = append(d.Cache, api.Pend{At: odd[r.IntN(len(odd))], Bytes: make([]byte, size)})
		case 6:
			d.Sectors = d.Sectors[:r.IntN(len(d.Sectors))]
		case 7:
			m.Count = c.Area
		}
		holdAll(t, c, d, m, b)
		if t.Failed() {
			t.FailNow()
		}
	}
}

// P1: nothing is kept from call to call, whoever calls between.
func TestNothingIsKept(t *testing.T) {
	var all sync.WaitGroup
	for _, a := range kinds() {
		want := answersOf(a)
		all.Add(1)
		go func() {
			defer all.Done()
			for range 50 {
				if got := answersOf(a); !got.same(want) || !reflect.DeepEqual(got.noting, want.noting) {
					t.Errorf("%+v is answered, and then %+v", want, got)
				}
				holdAll(t, a.c, a.d, a.m, a.b)
				holdCommit(t, a.c, a.d, a.m, gone(3), api.Meta{}, nil, api.ErrRec)
				holdBoot(t, a.c, api.Disk{}, a.m, api.Meta{}, nil, api.ErrBad)
			}
		}()
	}
	all.Wait()
}

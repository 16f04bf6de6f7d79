package rec_test

import (
	"bytes"
	"math/rand/v2"
	"slices"
	"sync"
	"testing"

	"catamaran/api"
	"catamaran/rec"
)

// The chapter's examples.
func TestExamples(t *testing.T) {
	want := []byte{1, 1, 0, 0, 1, 2, 0, 0, 0, 3, 1, 1, 0, 3}
	if b, e := rec.Note(example()); !bytes.Equal(b, want) || e != api.OK {
		t.Errorf("the note %v, error %d", b, e)
	}
	holdTable(t, [][]byte{want}, []api.Rec{example()}, api.OK)
	holdGone(t, 2, []byte{2, 2}, api.OK)
	r := example()
	r.Phase = 2
	holdRec(t, r)
	if e := rec.Check(r); e != api.ErrRec {
		t.Errorf("Quick in PhPair: error %d", e)
	}
}

// The numbers that the document names.
func TestNumbers(t *testing.T) {
	for e, want := range map[api.Errno]int{api.OK: 0, api.ErrArg: 2, api.ErrRec: 110} {
		if int(e) != want {
			t.Errorf("the error %d, want %d", e, want)
		}
	}
	for phase, want := range map[uint8]uint8{api.PhCopy: 1, api.PhPair: 2, api.PhSplit: 3} {
		if phase != want {
			t.Errorf("the phase %d, want %d", phase, want)
		}
	}
}

// P11.1: all records at the edges, such as may be and such as may not.
func TestEdges(t *testing.T) {
	all := edges()
	if len(all) != 5*4*4*384 {
		t.Fatalf("%d records", len(all))
	}
	for _, r := range all {
		holdRec(t, r)
	}
	// Of each pair: nine ways of Born and Epoch; of each of 2 leads, in PhCopy 2 ways back and 1 forth, and 1 in the others; each Alone or not.
	if n := len(right()); n != 3*9*2*(2+1+1+1)*2 {
		t.Errorf("%d of them may be", n)
	}
}

// P11.1: one thing that is wrong is enough.
func TestWrongRecs(t *testing.T) {
	for name, r := range wrongRecs() {
		holdRec(t, r)
		if b, e := rec.Note(r); e != api.ErrRec || len(b) != 0 {
			t.Errorf("%s: the note %v, error %d", name, b, e)
		}
	}
}

// P11.1: each Phase that there is, whichever site leads, of which site, quick or not.
func TestPhases(t *testing.T) {
	for phase := range 256 {
		for bits := range 16 {
			r := example()
			r.Phase = uint8(phase)
			r.Lead, r.From = bits&1, bits>>1&1
			r.Quick, r.Alone = bits&4 != 0, bits&8 != 0
			holdRec(t, r)
			holdNote(t, row(r))
		}
	}
}

// P11.1: pairs and sites that are far from those that there are, of which many are one in less bits.
func TestFar(t *testing.T) {
	for _, n := range far() {
		for _, phase := range []uint8{1, 2, 3} {
			for _, turn := range []func(r *api.Rec){
				func(r *api.Rec) { r.Pair = n },
				func(r *api.Rec) { r.Lead = n },
				func(r *api.Rec) { r.From = n },
				func(r *api.Rec) { r.Lead, r.From = n, n },
			} {
				r := api.Rec{Born: 7, Epoch: 8, Phase: phase}
				turn(&r)
				holdRec(t, r)
				if n != 2 {
					r.Quick = true
					holdRec(t, r)
				}
			}
		}
		holdGone(t, n, nil, api.ErrArg)
	}
	for n := -300; n <= 300; n++ {
		r := api.Rec{Pair: n, Born: 7, Epoch: 8, Phase: 2}
		holdRec(t, r)
		r = api.Rec{Born: 7, Epoch: 8, Lead: n, From: n, Phase: 2}
		holdRec(t, r)
		r = api.Rec{Born: 7, Epoch: 8, Lead: 1, From: n, Phase: 1}
		holdRec(t, r)
	}
}

// P11.1: each pair's note that its record is gone.
func TestGone(t *testing.T) {
	for pair := range 3 {
		holdGone(t, pair, gone(pair), api.OK)
	}
	for pair := -300; pair <= 300; pair++ {
		if pair < 0 || pair > 2 {
			holdGone(t, pair, nil, api.ErrArg)
		}
	}
}

// P11.1, P11.2: each bit of Born and Epoch has its place, and each flag.
func TestBits(t *testing.T) {
	base := api.Rec{Pair: 2, Born: 1, Epoch: 1, Lead: 0, Phase: 1, From: 1}
	hold := func(r api.Rec, want []byte) {
		t.Helper()
		if b, e := rec.Note(r); !bytes.Equal(b, want) || e != api.OK {
			t.Errorf("Note(%+v): %v, error %d; want %v", r, b, e, want)
		}
		holdTable(t, [][]byte{want}, []api.Rec{r}, api.OK)
	}
	for i := range 32 {
		r, want := base, []byte{1, 2, 0, 0, 0, 0, 0, 0, 0, 1, 0, 1, 1, 0}
		r.Born = 1 << i
		want[5-i/8] = 1 << (i % 8)
		hold(r, want)
		r, want = base, []byte{1, 2, 0, 0, 0, 1, 0, 0, 0, 0, 0, 1, 1, 0}
		r.Epoch = 1 << i
		want[9-i/8] = 1 << (i % 8)
		hold(r, want)
	}
	for flags := range 4 {
		r := base
		r.Quick, r.Alone = flags == 2 || flags == 3, flags == 1 || flags == 3
		hold(r, []byte{1, 2, 0, 0, 0, 1, 0, 0, 0, 1, 0, 1, 1, byte(flags)})
	}
	hold(api.Rec{Pair: 0, Born: top, Epoch: 1 << 31, Lead: 1, Phase: 3, From: 1, Alone: true}, []byte{1, 0, 255, 255, 255, 255, 128, 0, 0, 0, 1, 3, 1, 1})
}

// P11.2, P11.4: a note tells its record, of each that may be at the edges, alone and put into tables.
func TestNoteTellsItsRecord(t *testing.T) {
	for _, r := range right() {
		b, e := rec.Note(r)
		if e != api.OK || len(b) != long {
			t.Fatalf("Note(%+v): %v, error %d", r, b, e)
		}
		holdTable(t, [][]byte{b}, []api.Rec{r}, api.OK)
		holdPut(t, nil, b, []api.Rec{r}, api.OK)
		for _, x := range tables() {
			y := mustPut(t, x, b)
			holdFind(t, y, r.Pair, r, true)
			if want := put(x, r, true); !slices.Equal(y, want) {
				t.Errorf("Put(%+v, %v): %+v, want %+v", x, b, y, want)
			}
		}
		g, e := rec.Gone(r.Pair)
		if e != api.OK {
			t.Fatalf("Gone(%d): error %d", r.Pair, e)
		}
		holdTable(t, [][]byte{b, g}, nil, api.OK)
		holdTable(t, [][]byte{g, b}, []api.Rec{r}, api.OK)
		holdPut(t, []api.Rec{r}, g, nil, api.OK)
	}
}

// P11.2: the notes of records that may not be are none, of all the edges that have room in a note.
func TestNotesOfEdges(t *testing.T) {
	for _, r := range edges() {
		holdNote(t, row(r))
	}
}

// P11.2: each text of two bytes, and of a mark and a pair ahead of what is right else.
func TestMarksAndPairs(t *testing.T) {
	for mark := range 256 {
		for pair := range 256 {
			holdNote(t, []byte{byte(mark), byte(pair)})
			if mark < 4 || pair < 4 {
				holdNote(t, append([]byte{byte(mark), byte(pair)}, row(one(0))[2:]...))
			}
		}
	}
}

// P11.2: notes each byte of which is each that there is.
func TestTurnedNotes(t *testing.T) {
	for _, b := range append(notes(), row(example()), row(api.Rec{Born: 1, Epoch: 1, Phase: 2})) {
		for at := range b {
			for to := range 256 {
				holdNote(t, turned(b, at, byte(to)))
			}
		}
	}
}

// P11.2: what is wrong in lead, phase, from and flags together, also where the one would be right without the other.
func TestTails(t *testing.T) {
	b := row(one(2))
	for _, lead := range []byte{0, 1, 2, 3, 128, 255} {
		for _, from := range []byte{0, 1, 2, 3, 128, 255} {
			for _, phase := range []byte{0, 1, 2, 3, 4, 129, 130, 255} {
				for _, flags := range []byte{0, 1, 2, 3, 4, 5, 6, 7, 8, 16, 64, 128, 130, 253, 255} {
					b[10], b[11], b[12], b[13] = lead, phase, from, flags
					holdNote(t, b)
				}
			}
		}
	}
}

// P11.2: texts of each length but a note's, of each first byte; also ahead of a note, and behind it.
func TestLengths(t *testing.T) {
	for many := range 64 {
		for _, mark := range []byte{0, 1, 2, 3, 255} {
			for _, rest := range [][]byte{make([]byte, 64), bytes.Repeat([]byte{1}, 64), row(one(0))[1:], bytes.Repeat(row(one(1)), 5)[1:]} {
				b := append([]byte{mark}, rest...)
				b = b[:min(many, len(b))]
				holdNote(t, b)
				if len(b) != long && len(b) != short {
					holdTable(t, [][]byte{b}, nil, api.ErrRec)
					holdPut(t, []api.Rec{one(2)}, b, nil, api.ErrRec)
				}
			}
		}
	}
	holdTable(t, [][]byte{make([]byte, 1<<20)}, nil, api.ErrRec)
}

// P11.2: a text that is no note, among right ones, at each place.
func TestWrongNotes(t *testing.T) {
	for name, b := range wrongNotes() {
		holdTable(t, [][]byte{b}, nil, api.ErrRec)
		for _, l := range [][][]byte{{row(one(0)), row(one(1)), row(one(2)), gone(1)}, {gone(0)}, {row(two(2)), gone(2), row(one(2))}} {
			for at := range len(l) + 1 {
				holdTable(t, slices.Insert(slices.Clone(l), at, b), nil, api.ErrRec)
			}
		}
		for _, x := range tables() {
			holdPut(t, x, b, nil, api.ErrRec)
		}
		if t.Failed() {
			t.Fatal(name)
		}
	}
}

// P11.2: no notes, and no records.
func TestNone(t *testing.T) {
	for _, l := range [][][]byte{nil, {}, make([][]byte, 0, 3)} {
		holdTable(t, l, nil, api.OK)
	}
	for _, x := range [][]api.Rec{nil, {}, make([]api.Rec, 0, 3)} {
		holdNotes(t, x, nil, api.OK)
		for pair := -2; pair < 5; pair++ {
			holdFind(t, x, pair, api.Rec{}, false)
		}
		for pair := range 3 {
			holdPut(t, x, row(two(pair)), []api.Rec{two(pair)}, api.OK)
			holdPut(t, x, gone(pair), nil, api.OK)
		}
		holdPut(t, x, nil, nil, api.ErrRec)
	}
	holdTable(t, [][]byte{gone(0), gone(1), gone(2)}, nil, api.OK)
}

// P11.2: each note, put into each table that may be: a record takes the place of the one of its pair, or one is gone, also one that isn't there.
func TestPut(t *testing.T) {
	for _, x := range tables() {
		for _, b := range notes() {
			r, has, _ := noted(b)
			y := mustPut(t, x, b)
			if want := put(x, r, has); !slices.Equal(y, want) {
				t.Errorf("Put(%+v, %v): %+v, want %+v", x, b, y, want)
			}
			for pair := range 3 {
				want, is := toldFind(x, pair)
				if pair == r.Pair {
					want, is = api.Rec{}, has
					if has {
						want = r
					}
				}
				holdFind(t, y, pair, want, is)
			}
		}
	}
}

// P11.2: the records of a table stand in the order of their pairs, in whichever order the notes stand.
func TestOrder(t *testing.T) {
	want := []api.Rec{one(0), one(1), one(2)}
	for _, order := range [][]int{{0, 1, 2}, {0, 2, 1}, {1, 0, 2}, {1, 2, 0}, {2, 0, 1}, {2, 1, 0}} {
		var l [][]byte
		for _, pair := range order {
			l = append(l, row(one(pair)))
		}
		for range 50 {
			holdTable(t, l, want, api.OK)
			if x := mustPut(t, nil, l...); !slices.Equal(x, want) {
				t.Fatalf("one behind the other, in the order %v: %+v", order, x)
			}
		}
	}
}

// P11.2: Notes and Find on each table that may be.
func TestTables(t *testing.T) {
	for _, x := range tables() {
		l, e := toldNotes(x)
		holdNotes(t, x, l, e)
		for _, pair := range append(far(), 0, 1, 2) {
			r, is := toldFind(x, pair)
			holdFind(t, x, pair, r, is)
		}
	}
	for _, r := range right() {
		holdNotes(t, []api.Rec{r}, [][]byte{row(r)}, api.OK)
		holdFind(t, []api.Rec{r}, r.Pair, r, true)
	}
}

// refuseTable holds that the calls refuse a table, whatever else is right or wrong.
func refuseTable(t *testing.T, x []api.Rec) {
	t.Helper()
	holdNotes(t, x, nil, api.ErrRec)
	for _, b := range append(notes(), nil, gone(3), []byte{1}) {
		holdPut(t, x, b, nil, api.ErrRec)
	}
	for pair := -1; pair < 5; pair++ {
		holdFind(t, x, pair, api.Rec{}, false)
	}
}

// P11.2: tables that may not be, also where the note would take away what is wrong.
func TestWrongTables(t *testing.T) {
	for name, x := range wrongTables() {
		refuseTable(t, x)
		if t.Failed() {
			t.Fatal(name)
		}
	}
	for _, r := range edges() {
		if !may(r) {
			holdNotes(t, []api.Rec{r}, nil, api.ErrRec)
			holdPut(t, []api.Rec{r}, row(one(1)), nil, api.ErrRec)
			holdPut(t, []api.Rec{r}, gone(1), nil, api.ErrRec)
			holdFind(t, []api.Rec{r}, r.Pair, api.Rec{}, false)
		}
	}
}

// P11.2: all pairs that up to four records may have: but where they rise, there is no table.
func TestPairs(t *testing.T) {
	var hold func(x []api.Rec)
	hold = func(x []api.Rec) {
		if tableMay(x) {
			l, e := toldNotes(x)
			holdNotes(t, x, l, e)
		} else {
			refuseTable(t, x)
		}
		if len(x) == 4 {
			return
		}
		for pair := range 4 {
			hold(append(slices.Clone(x), one(pair)))
		}
	}
	hold(nil)
}

// sequences hands on all lists of up to so many of the notes.
func sequences(many int, hand func(l [][]byte)) {
	var on func(l [][]byte)
	on = func(l [][]byte) {
		hand(l)
		if len(l) == many {
			return
		}
		for _, b := range notes() {
			on(append(slices.Clone(l), b))
		}
	}
	on(nil)
}

// P11.4: to put notes one behind the other, or all at once, is the same, from whichever place on.
func TestOneByOne(t *testing.T) {
	sequences(4, func(l [][]byte) {
		all := mustTable(t, l)
		want, e := toldTable(l)
		holdTable(t, l, want, e)
		for at := range len(l) + 1 {
			if x := mustPut(t, mustTable(t, l[:at]), l[at:]...); !slices.Equal(x, all) {
				t.Fatalf("%v, from %d on: %+v, all at once: %+v", l, at, x, all)
			}
			behind := append(mustNotes(t, mustTable(t, l[:at])), l[at:]...)
			if x := mustTable(t, behind); !slices.Equal(x, all) {
				t.Fatalf("%v, behind the notes of %d: %+v, all at once: %+v", l, at, x, all)
			}
		}
	})
}

// P11.4: the last note of a pair alone counts.
func TestLastCounts(t *testing.T) {
	sequences(5, func(l [][]byte) {
		var want []api.Rec
		for pair := range 3 {
			for _, b := range slices.Backward(l) {
				if int(b[1]) != pair {
					continue
				}
				if r, has, _ := noted(b); has {
					want = append(want, r)
				}
				break
			}
		}
		holdTable(t, l, want, api.OK)
	})
}

// P11.4: a table is that of its notes, in each order of these.
func TestTableOfItsNotes(t *testing.T) {
	for _, x := range tables() {
		l := mustNotes(t, x)
		holdTable(t, l, x, api.OK)
		slices.Reverse(l)
		holdTable(t, l, x, api.OK)
		for _, y := range tables() {
			if z := mustPut(t, y, l...); !slices.Equal(z, mustTable(t, append(mustNotes(t, y), l...))) {
				t.Errorf("%+v behind %+v: %+v", x, y, z)
			}
		}
	}
	for _, r := range right() {
		if r.Pair == 1 {
			x := []api.Rec{one(0), r, two(2)}
			holdTable(t, mustNotes(t, x), x, api.OK)
		}
	}
}

// P1: of many notes, and of a great table, each call ends.
func TestMany(t *testing.T) {
	var l [][]byte
	for range 50000 {
		l = append(l, notes()...)
	}
	holdTable(t, l, nil, api.OK)
	l = append(l, row(two(2)), row(two(0)))
	holdTable(t, l, []api.Rec{two(0), two(2)}, api.OK)
	for _, at := range []int{0, 1000, len(l) - 1} {
		wrong := slices.Clone(l)
		wrong[at] = gone(3)
		holdTable(t, wrong, nil, api.ErrRec)
	}
	refuseTable(t, make([]api.Rec, 100000))
	refuseTable(t, append([]api.Rec{one(0), one(1), one(2)}, make([]api.Rec, 100000)...))
}

// P1, P11.2: where both the table and the note are wrong, or one of them.
func TestFirstError(t *testing.T) {
	for _, x := range [][]api.Rec{{one(0)}, {one(1), one(0)}, {{}}} {
		for _, b := range [][]byte{row(one(0)), gone(0), gone(3), nil} {
			want, e := toldPut(x, b)
			holdPut(t, x, b, want, e)
		}
	}
}

const behind = "----"

// roomy is b in other memory, which has more behind its end.
func roomy(b []byte) []byte { return append(bytes.Clone(b), behind...)[:len(b)] }

func isRoomy(b, want []byte) bool {
	return string(b[:len(b)+len(behind)]) == string(want)+behind
}

// handedNotes is l in other memory, all lists of which have more behind their ends.
func handedNotes(l [][]byte) [][]byte {
	var out [][]byte
	for _, b := range l {
		out = append(out, roomy(b))
	}
	return append(out, roomy(gone(0)), roomy(gone(1)))[:len(l)]
}

// areAsHanded tells whether all of l is as handedNotes made it.
func areAsHanded(l, want [][]byte) bool {
	want = append(slices.Clone(want), gone(0), gone(1))
	return slices.EqualFunc(l[:len(l)+2], want, isRoomy)
}

func stranger() api.Rec { return api.Rec{Pair: -7, Phase: 77} }

// handedTable is x in other memory, which has more behind its end.
func handedTable(x []api.Rec) []api.Rec {
	return append(slices.Clone(x), stranger(), stranger())[:len(x)]
}

// isAsHanded tells whether all of x is as handedTable made it.
func isAsHanded(x, want []api.Rec) bool {
	return slices.Equal(x[:len(x)+2], append(slices.Clone(want), stranger(), stranger()))
}

// P11.3: what is handed in is as it was, also behind its end; also where the calls tell an error.
func TestOnlyRead(t *testing.T) {
	hold := func(wantL [][]byte) {
		t.Helper()
		l := handedNotes(wantL)
		rec.Table(l)
		if !areAsHanded(l, wantL) {
			t.Errorf("Table(%v): what was handed in is another one", wantL)
		}
	}
	sequences(3, hold)
	holdBoth := func(wantX []api.Rec, wantB []byte) {
		t.Helper()
		x, b := handedTable(wantX), roomy(wantB)
		rec.Put(x, b)
		rec.Notes(x)
		for pair := -1; pair < 4; pair++ {
			rec.Find(x, pair)
		}
		if !isAsHanded(x, wantX) || !isRoomy(b, wantB) {
			t.Errorf("Put(%+v, %v): what was handed in is another one", wantX, wantB)
		}
	}
	for _, x := range tables() {
		for _, b := range notes() {
			holdBoth(x, b)
		}
	}
	for _, wrong := range wrongNotes() {
		hold([][]byte{row(one(2)), wrong, row(one(0))})
		holdBoth([]api.Rec{one(0), two(1)}, wrong)
	}
	for _, wrong := range wrongTables() {
		holdBoth(wrong, row(two(0)))
	}
}

// spoil turns each byte, also those in the capacities.
func spoil(parts ...[]byte) {
	for _, b := range parts {
		b = b[:cap(b)]
		for i := range b {
			b[i] += 99
		}
	}
}

// P11.3: what Note and Gone answer is new memory, each time.
func TestNewNotes(t *testing.T) {
	for pair := range 3 {
		for _, call := range []func() ([]byte, api.Errno){
			func() ([]byte, api.Errno) { return rec.Note(one(pair)) },
			func() ([]byte, api.Errno) { return rec.Gone(pair) },
		} {
			first, _ := call()
			second, _ := call()
			kept := bytes.Clone(second)
			spoil(first)
			third, e := call()
			if !bytes.Equal(second, kept) || !bytes.Equal(third, kept) || e != api.OK {
				t.Errorf("the pair %d: what is answered shares memory", pair)
			}
		}
	}
}

// P11.3: a change of a table that is answered changes no other one, nor what was handed in; a change of that changes no answer.
func TestNewTables(t *testing.T) {
	hold := func(wantX []api.Rec, wantL [][]byte, of func(x []api.Rec, l [][]byte) ([]api.Rec, api.Errno)) {
		t.Helper()
		x, l := handedTable(wantX), handedNotes(wantL)
		call := func() []api.Rec {
			y, e := of(x, l)
			if e != api.OK {
				t.Fatalf("%+v, %v: error %d", wantX, wantL, e)
			}
			return y
		}
		first, second := call(), call()
		kept := slices.Clone(second)
		clear(first[:cap(first)])
		if !slices.Equal(second, kept) || !slices.Equal(call(), kept) || !isAsHanded(x, wantX) || !areAsHanded(l, wantL) {
			t.Fatalf("%+v, %v: what is answered shares memory", wantX, wantL)
		}
		spoil(l...)
		clear(l[:cap(l)])
		clear(x[:cap(x)])
		if !slices.Equal(second, kept) {
			t.Fatalf("%+v, %v: what is answered shares memory with what was handed in", wantX, wantL)
		}
	}
	sequences(3, func(l [][]byte) {
		hold(nil, l, func(_ []api.Rec, l [][]byte) ([]api.Rec, api.Errno) { return rec.Table(l) })
	})
	for _, x := range tables() {
		for _, b := range notes() { // one that changes nothing is among them
			hold(x, [][]byte{b}, func(x []api.Rec, l [][]byte) ([]api.Rec, api.Errno) { return rec.Put(x, l[0]) })
		}
	}
}

// P11.3: the notes of a table are new memory, and each one's bytes are its own.
func TestNewNotesOfTables(t *testing.T) {
	for _, want := range tables() {
		x := handedTable(want)
		first, second := mustNotes(t, x), mustNotes(t, x)
		kept, _ := toldNotes(want)
		for at := range first {
			spoil(first[at])
			first[at] = nil
			if !alikeNotes(first[at+1:], kept[at+1:]) {
				t.Fatalf("%+v: two notes share memory", want)
			}
		}
		clear(first[:cap(first)])
		if !alikeNotes(second, kept) || !alikeNotes(mustNotes(t, x), kept) || !isAsHanded(x, want) {
			t.Fatalf("%+v: what Notes answers shares memory", want)
		}
		clear(x[:cap(x)])
		if !alikeNotes(second, kept) {
			t.Fatalf("%+v: what Notes answers shares memory with what was handed in", want)
		}
	}
}

// anyRec is a record of anything, that often may be, or nearly.
func anyRec(r *rand.Rand) api.Rec {
	x := api.Rec{
		Pair:  r.IntN(3),
		Born:  1 + r.Uint32()>>(1+r.IntN(31)),
		Epoch: 1 + r.Uint32()>>(1+r.IntN(31)),
		Lead:  r.IntN(2),
		Phase: uint8(1 + r.IntN(3)),
		Alone: r.IntN(2) == 0,
	}
	x.From = x.Lead
	if x.Phase == 1 && r.IntN(2) == 0 {
		x.From, x.Quick = 1-x.Lead, r.IntN(2) == 0
	}
	if r.IntN(6) > 0 {
		return x
	}
	some := append(far(), 0, 1, 2)
	switch r.IntN(8) {
	case 0:
		x.Pair = some[r.IntN(len(some))]
	case 1:
		x.Lead = some[r.IntN(len(some))]
	case 2:
		x.From = some[r.IntN(len(some))]
	case 3:
		x.Born = 0
	case 4:
		x.Epoch = 0
	case 5:
		x.Phase = uint8(r.Uint32())
	case 6:
		x.Quick = true
	case 7:
		x.From = 1 - x.From
	}
	return x
}

// anyNote is a text that often is a note, or nearly.
func anyNote(r *rand.Rand) []byte {
	b := row(anyRec(r))
	if r.IntN(3) == 0 {
		b = gone(r.IntN(3))
	}
	switch r.IntN(12) {
	case 0:
		b[r.IntN(len(b))] = byte(r.Uint32())
	case 1:
		b = b[:r.IntN(len(b))]
	case 2:
		b = append(b, byte(r.Uint32()))
	}
	return b
}

// P1: each call ends, and none panics, whatever comes; the answers are those of the chapter's words.
func TestWhatever(t *testing.T) {
	r := seeded(1)
	some := append(far(), 0, 1, 2)
	for range 100000 {
		var x []api.Rec
		for pair := range 3 {
			if r.IntN(2) == 0 {
				y := anyRec(r)
				if r.IntN(8) > 0 {
					y.Pair = pair
				}
				x = append(x, y)
			}
		}
		var l [][]byte
		for range r.IntN(6) {
			l = append(l, anyNote(r))
		}
		holdAll(t, x, l, some[r.IntN(len(some))])
		holdAll(t, x, nil, r.IntN(3))
		if t.Failed() {
			t.FailNow()
		}
	}
}

// P1: over long runs of notes, put into one table: it is what was put there last, pair by pair.
func TestLongRuns(t *testing.T) {
	r := seeded(2)
	var x []api.Rec
	var l [][]byte
	for range 2000 {
		b := anyNote(r)
		want, e := toldPut(x, b)
		holdPut(t, x, b, want, e)
		if e != api.OK {
			continue
		}
		x, l = mustPut(t, x, b), append(l, b)
		holdTable(t, l, x, api.OK)
		holdTable(t, mustNotes(t, x), x, api.OK)
		if t.Failed() {
			t.FailNow()
		}
	}
}

// P1: nothing is kept from call to call, whoever calls between.
func TestNothingIsKept(t *testing.T) {
	var all sync.WaitGroup
	for i, x := range tables() {
		all.Add(1)
		go func() {
			defer all.Done()
			for n := range 50 {
				y := one(i % 3)
				y.Born = uint32(1 + 100*i + n)
				holdPut(t, x, row(y), put(x, y, true), api.OK)
				holdPut(t, x, gone(i%3), put(x, y, false), api.OK)
				holdPut(t, x, gone(3), nil, api.ErrRec)
				holdTable(t, mustOf(x), x, api.OK)
				holdRec(t, y)
			}
		}()
	}
	all.Wait()
}

// mustOf are the notes of a table that may be, by the chapter's words.
func mustOf(x []api.Rec) [][]byte {
	l, _ := toldNotes(x)
	return l
}

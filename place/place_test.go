package place_test

import (
	"math"
	"sync"
	"testing"

	"catamaran/api"
	"catamaran/place"
)

// far are numbers far from all that may be, of which some come back into it where a sum or a product wraps round.
func far() []int {
	return []int{
		math.MinInt, math.MinInt + 1, math.MinInt + 2, math.MinInt + 3, math.MinInt / 2, math.MinInt / 4, math.MinInt32, -1024, -256,
		256, 257, 1024, 1 << 32, 1<<32 + 1, 1<<62 + 1, math.MaxInt/4 + 1, math.MaxInt / 2, math.MaxInt/2 + 1,
		math.MaxInt - 4, math.MaxInt - 3, math.MaxInt - 2, math.MaxInt - 1, math.MaxInt,
	}
}

// The chapter's examples.
func TestExamples(t *testing.T) {
	c := sample()
	holdCheck(t, c, okay)
	holdPages(t, c, 2, okay)
	holdSectors(t, c, 86, okay)
	area, page, track := calls()[0], calls()[1], calls()[2]
	holdSector(t, area, c, 1, 0, 6, okay)
	holdSector(t, page, c, 1, 1, 13, okay)
	holdSector(t, track, c, 1, 8, 82, okay)
	holdWhat(t, c, 85, spot{isTrack, 1, 8}, okay)
}

// The numbers of the kinds, the limits and the errors, which the chapter and the document name.
func TestNumbers(t *testing.T) {
	for _, k := range [][2]uint8{{api.IsSuper, 1}, {api.IsArea, 2}, {api.IsPage, 3}, {api.IsTrack, 4}} {
		if k[0] != k[1] {
			t.Errorf("kind %d, want %d", k[0], k[1])
		}
	}
	if api.OK != okay || api.ErrArg != arg || api.ErrBad != bad {
		t.Errorf("errors %d, %d and %d", api.OK, api.ErrArg, api.ErrBad)
	}
}

// P7.1: each field at its least and its greatest value, and the ones beside.
func TestCheckEdges(t *testing.T) {
	base := config(2, 9, 10, 1, 2, 8)
	for _, l := range []struct {
		field       string
		least, most int
	}{
		{"Pairs", 1, 3}, {"Tracks", 1, 16}, {"Area", 4, 32}, {"Most", 1, 2}, {"Window", 1, 4}, {"Quiet", 4, 64},
	} {
		for n := l.least; n <= l.most; n++ {
			holdCounts(t, with(base, l.field, n))
		}
		outside := append(far(), l.least-1, l.least-2, -l.least, -l.most, l.most+1, l.most+2, 2*l.most)
		for _, n := range outside {
			refuse(t, with(base, l.field, n))
		}
	}
}

// P7.1: what Area and Most may be hangs on Pairs.
func TestCheckByPairs(t *testing.T) {
	for pairs := 1; pairs <= 3; pairs++ {
		for area := -2; area <= 36; area++ {
			for most := -2; most <= 6; most++ {
				c := config(pairs, 8, area, most, 1, 4)
				if want := area >= pairs+2 && area <= 32 && most >= 1 && most <= pairs; want != isGood(c) {
					t.Fatalf("isGood(%s): %v", titled(c), !want)
				}
				held(t, c)
			}
		}
	}
	for _, c := range []api.Config{
		config(1, 8, 3, 1, 1, 4), config(2, 8, 4, 2, 1, 4), config(3, 8, 5, 3, 1, 4),
		config(1, 1, 32, 1, 4, 64), config(3, 16, 32, 3, 4, 64), config(3, 16, 5, 1, 1, 4),
	} {
		holdCounts(t, c)
	}
	for _, c := range []api.Config{
		config(1, 8, 2, 1, 1, 4), config(2, 8, 3, 2, 1, 4), config(3, 8, 4, 3, 1, 4), // one less than Pairs and 2
		config(1, 8, 9, 2, 1, 4), config(2, 8, 9, 3, 1, 4), config(3, 8, 9, 4, 1, 4), // one more than Pairs
		config(0, 8, 9, 0, 1, 4), config(0, 8, 9, 1, 1, 4), config(4, 8, 9, 4, 1, 4), config(4, 8, 9, 1, 1, 4),
		config(math.MaxInt, 8, 9, 1, 1, 4), config(math.MaxInt-1, 8, 9, 1, 1, 4), config(math.MaxInt-2, 8, 9, 1, 1, 4),
		config(math.MinInt, 8, math.MinInt+2, math.MinInt, 1, 4), config(-1, 8, 1, -1, 1, 4),
		{},
	} {
		refuse(t, c)
	}
}

// P7.1, P1: all fields at once at the edges, so that each one, each two of them, and so on are wrong.
func TestCheckTogether(t *testing.T) {
	low, high := math.MinInt, math.MaxInt
	for _, pairs := range []int{low, -1, 0, 1, 2, 3, 4, high - 1, high} {
		for _, tracks := range []int{low, 0, 1, 8, 9, 16, 17, high} {
			for _, area := range []int{low, low + 1, 0, 2, 3, 4, 5, 6, 32, 33, high} {
				for _, most := range []int{low, -1, 0, 1, 2, 3, 4, high} {
					for _, window := range []int{low, 0, 1, 4, 5, high} {
						for _, quiet := range []int{low, 3, 4, 64, 65, high} {
							held(t, config(pairs, tracks, area, most, window, quiet))
						}
					}
				}
			}
		}
	}
}

// P7.1: configs of any numbers, most of which are near those that may be.
func TestCheckAny(t *testing.T) {
	r := seeded(2)
	near := func(most int) int {
		if r.IntN(12) == 0 {
			return int(r.Uint64())
		}
		return r.IntN(most+3) - 1
	}
	good := 0
	for range 100000 {
		c := config(near(3), near(16), near(32), near(3), near(4), near(64))
		held(t, c)
		if isGood(c) {
			good++
		}
	}
	if good < 1000 {
		t.Errorf("but %d configs that may be", good)
	}
}

// P7.1: how many sectors and pages there are, counted by hand.
func TestCounts(t *testing.T) {
	for _, l := range []struct {
		c              api.Config
		pages, sectors int
	}{
		{placed(1, 1, 3), 1, 2 + 6 + 1 + 4},
		{placed(1, 7, 3), 1, 2 + 6 + 1 + 28},
		{placed(1, 8, 3), 1, 2 + 6 + 1 + 32},
		{placed(1, 9, 3), 2, 2 + 6 + 2 + 36},
		{placed(1, 15, 3), 2, 2 + 6 + 2 + 60},
		{placed(1, 16, 3), 2, 2 + 6 + 2 + 64},
		{placed(1, 1, 32), 1, 2 + 64 + 1 + 4},
		{placed(2, 7, 4), 1, 2 + 8 + 2 + 56},
		{placed(2, 8, 4), 1, 2 + 8 + 2 + 64},
		{placed(2, 9, 5), 2, 2 + 10 + 4 + 72},
		{placed(3, 1, 5), 1, 2 + 10 + 3 + 12},
		{placed(3, 8, 5), 1, 2 + 10 + 3 + 96},
		{placed(3, 9, 31), 2, 2 + 62 + 6 + 108},
		{placed(3, 16, 32), 2, 264},
	} {
		holdPages(t, l.c, l.pages, okay)
		holdSectors(t, l.c, l.sectors, okay)
	}
}

// P7.1, P7.2, P7.3: what places nothing (Most, Window, Quiet) turns no answer.
func TestOthersPlaceNothing(t *testing.T) {
	for most := 1; most <= 3; most++ {
		for window := 1; window <= 4; window++ {
			for _, quiet := range []int{4, 5, 63, 64} {
				c := config(3, 9, 7, most, window, quiet)
				holdPages(t, c, 2, okay)
				holdSectors(t, c, 2+14+6+108, okay)
				holdSector(t, calls()[0], c, 1, 6, 15, okay)
				holdSector(t, calls()[1], c, 2, 1, 21, okay)
				holdSector(t, calls()[2], c, 2, 8, 126, okay)
				holdWhat(t, c, 129, spot{isTrack, 2, 8}, okay)
			}
		}
	}
}

// P7.2: the first and the last of each part, and the sectors beside, counted by hand.
func TestParts(t *testing.T) {
	c := placed(3, 9, 6) // 2, 12, 6 and 108 sectors
	for _, l := range []struct {
		which, owner, n, at int
	}{
		{0, 0, 0, 2}, {0, 0, 5, 7}, {0, 1, 0, 8}, {0, 1, 5, 13},
		{1, 0, 0, 14}, {1, 0, 1, 15}, {1, 1, 0, 16}, {1, 1, 1, 17}, {1, 2, 0, 18}, {1, 2, 1, 19},
		{2, 0, 0, 20}, {2, 0, 1, 24}, {2, 0, 8, 52}, {2, 1, 0, 56}, {2, 1, 8, 88}, {2, 2, 0, 92}, {2, 2, 8, 124},
	} {
		holdSector(t, calls()[l.which], c, l.owner, l.n, l.at, okay)
	}
	for at, want := range map[int]spot{
		0: {isSuper, 0, 0}, 1: {isSuper, 0, 0},
		2: {isArea, 0, 0}, 7: {isArea, 0, 5}, 8: {isArea, 1, 0}, 13: {isArea, 1, 5},
		14: {isPage, 0, 0}, 15: {isPage, 0, 1}, 16: {isPage, 1, 0}, 19: {isPage, 2, 1},
		20: {isTrack, 0, 0}, 23: {isTrack, 0, 0}, 24: {isTrack, 0, 1}, 55: {isTrack, 0, 8},
		56: {isTrack, 1, 0}, 91: {isTrack, 1, 8}, 92: {isTrack, 2, 0}, 124: {isTrack, 2, 8}, 127: {isTrack, 2, 8},
	} {
		holdWhat(t, c, at, want, okay)
	}
	for _, at := range []int{-1, -2, 128, 129} {
		holdWhat(t, c, at, spot{}, arg)
	}
}

// P7.2: of each config, each area, pair and number that is there, and those beside that are not.
func TestSectorOfEach(t *testing.T) {
	eachGood(func(c api.Config) {
		at := firsts(c)
		for _, f := range calls() {
			for owner := -2; owner <= 5; owner++ {
				for n := -2; n <= 34; n++ {
					want, is := at[spot{f.kind, owner, n}]
					if is {
						holdSector(t, f, c, owner, n, want, okay)
					} else {
						holdSector(t, f, c, owner, n, 0, arg)
					}
				}
			}
		}
	})
}

// P7.2: an area, a pair and a number that are not there, far off.
func TestNoSectorFarOff(t *testing.T) {
	for _, c := range []api.Config{sample(), placed(1, 1, 3), placed(1, 8, 3), placed(3, 16, 32), placed(2, 16, 16)} {
		for _, f := range calls() {
			for _, no := range far() {
				for there := range 2 {
					holdSector(t, f, c, no, there, 0, arg)
					holdSector(t, f, c, there, no, 0, arg)
				}
				holdSector(t, f, c, no, no, 0, arg)
				holdSector(t, f, c, -no, no, 0, arg)
			}
		}
	}
}

// P7.3: of each config, what stands in each sector, and nothing in those beside.
func TestWhatOfEach(t *testing.T) {
	eachGood(func(c api.Config) {
		l := laid(c)
		for at, want := range l {
			holdWhat(t, c, at, want, okay)
		}
		many := len(l)
		for _, at := range append(far(), -1, -2, -many, many, many+1, many+2, many+3, many+4, 2*many) {
			if at < 0 || at >= many {
				holdWhat(t, c, at, spot{}, arg)
			}
		}
	})
}

// placesOf is how many things the calls tell to stand in each sector of a config's disk.
func placesOf(t *testing.T, c api.Config) map[int]int {
	t.Helper()
	told := map[int]int{0: 1, 1: 1} // the super's cell
	tell := func(f call, owner, n, width int) {
		at, e := f.of(c, owner, n)
		if e != okay {
			t.Fatalf("%s(%s, %d, %d): error %d", f.name, titled(c), owner, n, e)
		}
		for i := range width {
			told[at+i]++
			holdWhat(t, c, at+i, spot{f.kind, owner, n}, okay)
		}
	}
	pages, _ := place.Pages(c)
	for area := range 2 {
		for n := range c.Area {
			tell(calls()[0], area, n, 1)
		}
	}
	for pair := range c.Pairs {
		for n := range pages {
			tell(calls()[1], pair, n, 1)
		}
		for n := range c.Tracks {
			tell(calls()[2], pair, n, 4)
		}
	}
	return told
}

// P7.4: no two share a sector, and together they are all: asked of the calls alone.
func TestOneThingAlone(t *testing.T) {
	eachGood(func(c api.Config) {
		many, e := place.Sectors(c)
		if e != okay {
			t.Fatalf("Sectors(%s): error %d", titled(c), e)
		}
		told := placesOf(t, c)
		if len(told) != many {
			t.Fatalf("%s: %d sectors are told, of %d", titled(c), len(told), many)
		}
		for at := range many {
			if told[at] != 1 {
				t.Fatalf("%s: the sector %d is told %d times", titled(c), at, told[at])
			}
		}
	})
}

// P7.4: What tells a place, and the call of its kind tells the same sector back.
func TestThereAndBack(t *testing.T) {
	eachGood(func(c api.Config) {
		many, _ := place.Sectors(c)
		for at := range many {
			kind, owner, n, e := place.What(c, at)
			if e != okay {
				t.Fatalf("What(%s, %d): error %d", titled(c), at, e)
			}
			if kind == isSuper {
				continue
			}
			f := calls()[kind-isArea]
			first, e := f.of(c, owner, n)
			width := 1
			if kind == isTrack {
				width = 4
			}
			if e != okay || at < first || at >= first+width {
				t.Fatalf("%s: What of %d: %d, %d, %d; %s: %d, error %d", titled(c), at, kind, owner, n, f.name, first, e)
			}
		}
	})
}

// The limits of a disk: each config's has room on one that may be.
func TestRoom(t *testing.T) {
	eachGood(func(c api.Config) {
		if many, e := place.Sectors(c); e != okay || many < 1 || many > api.MaxSectors {
			t.Fatalf("Sectors(%s): %d, error %d", titled(c), many, e)
		}
	})
}

// P1: Check's error is told ahead of ErrArg, and with each of them nothing beside.
func TestCheckFirst(t *testing.T) {
	for field := range fields() {
		for _, number := range append(far(), 0, -1) {
			c := with(sample(), field, number)
			refuse(t, c)
			for _, no := range append(far(), -1) {
				holdWhat(t, c, no, spot{}, bad)
				for _, f := range calls() {
					holdSector(t, f, c, no, no, 0, bad)
					holdSector(t, f, c, 0, no, 0, bad)
					holdSector(t, f, c, no, 0, 0, bad)
				}
			}
		}
		for other := range fields() {
			refuse(t, with(with(sample(), field, 0), other, math.MaxInt))
		}
	}
}

// P1: nothing is kept from call to call, whoever calls between.
func TestNothingIsKept(t *testing.T) {
	var all sync.WaitGroup
	for _, c := range []api.Config{sample(), placed(1, 1, 3), placed(3, 16, 32), {}, placed(3, 8, 5)} {
		all.Add(1)
		go func() {
			defer all.Done()
			for range 200 {
				if !isGood(c) {
					if n, e := place.Sectors(c); n != 0 || e != bad {
						t.Errorf("Sectors(%s): %d, error %d", titled(c), n, e)
					}
					continue
				}
				l := laid(c)
				for at, want := range l {
					if kind, of, n, e := place.What(c, at); (spot{kind, of, n}) != want || e != okay {
						t.Errorf("What(%s, %d): %d, %d, %d, error %d", titled(c), at, kind, of, n, e)
					}
				}
			}
		}()
	}
	all.Wait()
}

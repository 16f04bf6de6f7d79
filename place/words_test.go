package place_test

import (
	"fmt"
	"math/rand/v2"
	"testing"

	"catamaran/api"
	"catamaran/place"
)

// Kinds of what stands in a sector, by the chapter's numbers.
const (
	isSuper uint8 = 1
	isArea  uint8 = 2
	isPage  uint8 = 3
	isTrack uint8 = 4
)

const (
	okay = api.Errno(0)
	arg  = api.Errno(2)
	bad  = api.Errno(8)
)

func seeded(seed uint64) *rand.Rand { return rand.New(rand.NewPCG(seed, 7)) }

// config is a config by its numbers, in the order of the chapter.
func config(pairs, tracks, area, most, window, quiet int) api.Config {
	return api.Config{Pairs: pairs, Tracks: tracks, Area: area, Most: most, Window: window, Quiet: quiet}
}

// sample is the config of the chapter's examples.
func sample() api.Config { return config(2, 9, 4, 2, 2, 8) }

// placed is a config that may be, of whose numbers only those that place something are chosen.
func placed(pairs, tracks, area int) api.Config { return config(pairs, tracks, area, 1, 1, 4) }

// isGood tells whether a config may be, by the chapter's words.
func isGood(c api.Config) bool {
	if c.Pairs != 1 && c.Pairs != 2 && c.Pairs != 3 {
		return false
	}
	least := map[int]int{1: 3, 2: 4, 3: 5}
	switch {
	case c.Tracks < 1, c.Tracks > 16:
		return false
	case c.Area < least[c.Pairs], c.Area > 32:
		return false
	case c.Most < 1, c.Most > c.Pairs:
		return false
	case c.Window < 1, c.Window > 4:
		return false
	case c.Quiet < 4, c.Quiet > 64:
		return false
	}
	return true
}

// spot is what stands in a sector.
type spot struct {
	kind  uint8
	of, n int
}

// laid is a disk's sectors, one behind the other, by the chapter's words.
func laid(c api.Config) []spot {
	l := []spot{{isSuper, 0, 0}, {isSuper, 0, 0}}
	for area := range 2 {
		for n := range c.Area {
			l = append(l, spot{isArea, area, n})
		}
	}
	for pair := range c.Pairs {
		for page := range pagesOf(c) {
			l = append(l, spot{isPage, pair, page})
		}
	}
	for pair := range c.Pairs {
		for track := range c.Tracks {
			s := spot{isTrack, pair, track}
			l = append(l, s, s, s, s)
		}
	}
	return l
}

func pagesOf(c api.Config) int {
	pages := 0
	for rest := c.Tracks; rest > 0; rest -= 8 {
		pages++
	}
	return pages
}

// firsts tells of each thing that stands on a disk where its first sector is.
func firsts(c api.Config) map[spot]int {
	m := map[spot]int{}
	for at, s := range laid(c) {
		if _, is := m[s]; !is {
			m[s] = at
		}
	}
	return m
}

// eachGood hands on a config of each number of pairs, tracks and sectors of an area that may be; its other numbers vary.
func eachGood(f func(c api.Config)) {
	r := seeded(1)
	for pairs := 1; pairs <= 3; pairs++ {
		for tracks := 1; tracks <= 16; tracks++ {
			for area := pairs + 2; area <= 32; area++ {
				f(config(pairs, tracks, area, 1+r.IntN(pairs), 1+r.IntN(4), 4+r.IntN(61)))
			}
		}
	}
}

// call is a call that tells one sector of something.
type call struct {
	name string
	kind uint8
	of   func(c api.Config, owner, n int) (int, api.Errno)
}

func calls() []call {
	return []call{{"Area", isArea, place.Area}, {"Page", isPage, place.Page}, {"Track", isTrack, place.Track}}
}

// holdSector asks that the call tells this sector, or that error and nothing beside.
func holdSector(t *testing.T, f call, c api.Config, owner, n, want int, wantE api.Errno) {
	t.Helper()
	got, e := f.of(c, owner, n)
	if got != want || e != wantE {
		t.Fatalf("%s(%+v, %d, %d): %d, error %d; want %d, error %d", f.name, c, owner, n, got, e, want, wantE)
	}
}

// holdWhat asks that What tells this, or that error and nothing beside.
func holdWhat(t *testing.T, c api.Config, at int, want spot, wantE api.Errno) {
	t.Helper()
	kind, of, n, e := place.What(c, at)
	if got := (spot{kind, of, n}); got != want || e != wantE {
		t.Fatalf("What(%+v, %d): %v, error %d; want %v, error %d", c, at, got, e, want, wantE)
	}
}

func holdSectors(t *testing.T, c api.Config, want int, wantE api.Errno) {
	t.Helper()
	if got, e := place.Sectors(c); got != want || e != wantE {
		t.Fatalf("Sectors(%+v): %d, error %d; want %d, error %d", c, got, e, want, wantE)
	}
}

func holdPages(t *testing.T, c api.Config, want int, wantE api.Errno) {
	t.Helper()
	if got, e := place.Pages(c); got != want || e != wantE {
		t.Fatalf("Pages(%+v): %d, error %d; want %d, error %d", c, got, e, want, wantE)
	}
}

func holdCheck(t *testing.T, c api.Config, want api.Errno) {
	t.Helper()
	if e := place.Check(c); e != want {
		t.Fatalf("Check(%+v): error %d, want %d", c, e, want)
	}
}

// refuse asks that each call answers ErrBad for c and nothing beside, whether what is asked is there or not.
func refuse(t *testing.T, c api.Config) {
	t.Helper()
	holdCheck(t, c, bad)
	holdSectors(t, c, 0, bad)
	holdPages(t, c, 0, bad)
	for _, at := range []int{0, 2, -1, 1024} {
		holdWhat(t, c, at, spot{}, bad)
		for _, f := range calls() {
			holdSector(t, f, c, 0, at, 0, bad)
			holdSector(t, f, c, at, 0, 0, bad)
		}
	}
}

// holdCounts asks that c may be, and how many pages and sectors it has.
func holdCounts(t *testing.T, c api.Config) {
	t.Helper()
	holdCheck(t, c, okay)
	holdPages(t, c, pagesOf(c), okay)
	holdSectors(t, c, len(laid(c)), okay)
}

// held asks of c what the chapter says of it, whether it may be or not.
func held(t *testing.T, c api.Config) {
	t.Helper()
	if isGood(c) {
		holdCounts(t, c)
		return
	}
	refuse(t, c)
}

// fields are a config's numbers, by their names.
func fields() map[string]func(c *api.Config) *int {
	return map[string]func(c *api.Config) *int{
		"Pairs":  func(c *api.Config) *int { return &c.Pairs },
		"Tracks": func(c *api.Config) *int { return &c.Tracks },
		"Area":   func(c *api.Config) *int { return &c.Area },
		"Most":   func(c *api.Config) *int { return &c.Most },
		"Window": func(c *api.Config) *int { return &c.Window },
		"Quiet":  func(c *api.Config) *int { return &c.Quiet },
	}
}

// with is c with another number in that field.
func with(c api.Config, field string, number int) api.Config {
	*fields()[field](&c) = number
	return c
}

// titled is a config's numbers, in the order of the chapter.
func titled(c api.Config) string {
	return fmt.Sprint(c.Pairs, " ", c.Tracks, " ", c.Area, " ", c.Most, " ", c.Window, " ", c.Quiet)
}

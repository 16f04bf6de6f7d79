package sess_test

import (
	"bytes"
	"fmt"
	"math"
	"math/rand/v2"
	"slices"
	"strings"
	"sync"
	"testing"

	"catamaran/api"
	"catamaran/sess"
)

// The chapter's examples, one behind the other.
func TestExamples(t *testing.T) {
	c := sample()
	e := mustNew(t, 1)
	want := line{me: 4096}
	step := func(call string, got, want answer) {
		t.Helper()
		hold(t, call, got, want)
		e = got.end
	}
	if !alike(e, want.end()) {
		t.Fatalf("a new end is %s", shown(e))
	}
	want.quiet = 1
	step("a tick", tick(c, e), answer{end: want.end(), sent: []api.Frame{{Me: 4096}}})
	want.you, want.quiet = 8192, 0
	step("a greeting", take(c, e, api.Frame{Me: 8192}), answer{end: want.end()})
	want.up = true
	step("a greeting for it", take(c, e, api.Frame{Me: 8192, You: 4096}), answer{end: want.end(), told: []uint8{api.LinkUp}})
	for i, text := range []string{"a", "b", "c"} {
		want.waits, want.sent = append(want.waits, text), uint32(i+1)
		step("a message", put(c, e, []byte(text)), answer{end: want.end()})
	}
	want.quiet = 1
	step("a tick", tick(c, e), answer{end: want.end(), sent: []api.Frame{
		{Me: 4096, You: 8192, Seq: 1, Body: []byte("a")}, {Me: 4096, You: 8192, Seq: 2, Body: []byte("b")},
	}})
	want.quiet, want.done, want.head, want.waits = 0, 1, 1, []string{"b", "c"}
	step("an Ack", take(c, e, api.Frame{Me: 8192, You: 4096, Ack: 1}), answer{end: want.end()})
	for i := range 7 {
		want.quiet = i + 1
		step("a quiet tick", tick(c, e), answer{end: want.end(), sent: []api.Frame{
			{Me: 4096, You: 8192, Seq: 2, Body: []byte("b")}, {Me: 4096, You: 8192, Seq: 3, Body: []byte("c")},
		}})
	}
	step("the last quiet tick", tick(c, e), answer{end: line{me: 4097}.end(), sent: []api.Frame{{Me: 4097}}, told: []uint8{api.LinkDown}})
}

// The numbers of errors, and of what an end tells, which the document names.
func TestNumbers(t *testing.T) {
	for e, want := range map[api.Errno]int{
		api.OK: 0, api.ErrArg: 2, api.ErrMany: 4, api.ErrBad: 8, api.ErrFull: 9, api.ErrFrame: 150, api.ErrLink: 170,
	} {
		if int(e) != want {
			t.Errorf("the error %d, want %d", e, want)
		}
	}
	if api.LinkUp != 1 || api.LinkReset != 2 || api.LinkDown != 3 {
		t.Error("what an end tells")
	}
}

// P17.1, New: of each boot that there may be, its first and last ones, and those beside them.
func TestNew(t *testing.T) {
	boots := []uint32{1, 2, 3, 255, 256, 4095, 4096, 65535, 65536, lastOne - 1, lastOne}
	for i := range 20 {
		boots = append(boots, 1<<i)
	}
	r := seeded(1)
	for range 500 {
		boots = append(boots, 1+uint32(r.IntN(lastOne)))
	}
	for _, boot := range boots {
		e := mustNew(t, boot)
		if want := (line{me: 4096 * boot}).end(); !alike(e, want) {
			t.Errorf("a new end of %d is %s", boot, shown(e))
		}
		for _, c := range configs() {
			if err := sess.Check(c, e); err != api.OK {
				t.Errorf("a new end of %d may not be: error %d", boot, err)
			}
		}
	}
	if e := mustNew(t, lastOne); e.Me != 4294963200 {
		t.Errorf("a new end of the last boot is %s", shown(e))
	}
	for _, boot := range []uint32{0, lastOne + 1, lastOne + 2, 1<<20 + 1, 1<<21 - 1, 1 << 21, 1 << 24, 1<<31 - 1, 1 << 31, 1<<31 + 1, top - 1, top} {
		if e, err := sess.New(boot); err != api.ErrArg || !alike(e, api.End{}) {
			t.Errorf("New(%d): %s; error %d", boot, shown(e), err)
		}
	}
}

// P17.1, Check: ends that may be.
func TestCheck(t *testing.T) {
	r := seeded(2)
	for _, c := range configs() {
		for range 3000 {
			e := anyLine(r, c).end()
			if err := sess.Check(c, e); err != api.OK {
				t.Fatalf("%s may not be: error %d", shown(e), err)
			}
			holdCheck(t, c, e)
		}
	}
}

// P17.1, Check: each number of messages that wait, from each head; as many as Sent is above Done, and no others.
func TestCheckOut(t *testing.T) {
	c := sample()
	for many := range places + 1 {
		for head := range places {
			l := up(many)
			l.head = head
			for _, done := range []uint32{0, 1, 1 << 31, top - uint32(many)} {
				l.done, l.sent = done, done+uint32(many)
				if err := sess.Check(c, l.end()); err != api.OK {
					t.Fatalf("%s may not be: error %d", shown(l.end()), err)
				}
			}
		}
		for _, done := range []uint32{0, 1, 1 << 31, top - uint32(many)} {
			for _, turn := range []uint32{1, 2, 63, 64, 65, 1 << 8, 1 << 16, 1 << 31, top} {
				l := up(many)
				l.done, l.sent = done, done+uint32(many)+turn
				refuse(t, c, l.end())
				l.done, l.sent = done+turn, done+uint32(many)
				refuse(t, c, l.end())
			}
		}
		if t.Failed() {
			t.FailNow()
		}
	}
}

// broken are ends that may not be, by one thing each.
func broken(c api.Config) map[string]api.End {
	with := func(l line, change func(*api.End)) api.End {
		e := l.end()
		change(&e)
		return e
	}
	fresh, halfway, some, full := line{me: perBoot}, line{me: perBoot, you: 7}, up(3), up(places)
	some.head = 62
	l := map[string]api.End{
		"nothing":                {},
		"no Me":                  with(some, func(e *api.End) { e.Me = 0 }),
		"no Me, new":             with(fresh, func(e *api.End) { e.Me = 0 }),
		"no Me, Dead":            with(fresh, func(e *api.End) { e.Me, e.Dead = 0, true }),
		"Up without You":         with(up(0), func(e *api.End) { e.You = 0 }),
		"Up without You, in use": with(some, func(e *api.End) { e.You = 0 }),
		"Dead with You":          with(halfway, func(e *api.End) { e.Dead = true }),
		"Dead and up":            with(up(0), func(e *api.End) { e.Dead = true }),
		"Dead, Up without You":   with(fresh, func(e *api.End) { e.Dead, e.Up = true, true }),
		"Sent, not up":           with(halfway, func(e *api.End) { e.Sent, e.Done = 1, 1 }),
		"Sent and Done, new":     with(fresh, func(e *api.End) { e.Sent, e.Done = top, top }),
		"Sent alone, new":        with(fresh, func(e *api.End) { e.Sent = 1 }),
		"Got, not up":            with(halfway, func(e *api.End) { e.Got = 1 }),
		"Got, new":               with(fresh, func(e *api.End) { e.Got = top }),
		"Got, Dead":              with(fresh, func(e *api.End) { e.Got, e.Dead = 1, true }),
		"Sent and Done, Dead":    with(fresh, func(e *api.End) { e.Sent, e.Done, e.Dead = 5, 5, true }),
		"one waits, not up":      with(some, func(e *api.End) { e.Up = false }),
		"one waits, Dead":        with(some, func(e *api.End) { e.Up, e.You, e.Dead = false, 0, true }),
		"Done above Sent":        with(some, func(e *api.End) { e.Done, e.Sent = 3, 0 }),
		"Done one above Sent":    with(up(0), func(e *api.End) { e.Done = 1 }),
		"Done top, Sent few":     with(some, func(e *api.End) { e.Done, e.Sent = top, 2 }),
		"Done top, none wait":    with(up(1), func(e *api.End) { e.Done, e.Sent = top, 0 }),
		"more than wait":         with(some, func(e *api.End) { e.Sent = 4 }),
		"fewer than wait":        with(some, func(e *api.End) { e.Sent = 2 }),
		"more than there may be": with(full, func(e *api.End) { e.Sent++ }),
		"a place fewer":          with(some, func(e *api.End) { e.Out.Head, e.Out.Items = 0, queue(0, named(3)).Items[:63] }),
		"a place more":           with(some, func(e *api.End) { e.Out.Head, e.Out.Items = 0, append(queue(0, named(3)).Items, nil) }),
		"one place":              with(up(1), func(e *api.End) { e.Out.Items = e.Out.Items[:1] }),
		"three places":           with(up(3), func(e *api.End) { e.Out.Items = e.Out.Items[:3] }),
		"no places":              with(up(0), func(e *api.End) { e.Out.Items = nil }),
		"no places, new":         with(fresh, func(e *api.End) { e.Out.Items = nil }),
		"twice the places":       with(up(64), func(e *api.End) { e.Out.Items = append(e.Out.Items, make([][]byte, 64)...) }),
		"Head behind Out":        with(some, func(e *api.End) { e.Out.Head += places }),
		"Head 64":                with(up(0), func(e *api.End) { e.Out.Head = 64 }),
		"Head below nought":      with(some, func(e *api.End) { e.Out.Head -= places }),
		"Head -1":                with(up(0), func(e *api.End) { e.Out.Head = -1 }),
		"Many less":              with(some, func(e *api.End) { e.Out.Many = 2 }),
		"Many less, and Sent":    with(some, func(e *api.End) { e.Out.Many, e.Sent = 2, 2 }),
		"Many more":              with(some, func(e *api.End) { e.Out.Many = 4 }),
		"Many more, and Sent":    with(some, func(e *api.End) { e.Out.Many, e.Sent = 4, 4 }),
		"Many below nought":      with(up(0), func(e *api.End) { e.Out.Many, e.Done = -1, 1 }),
		"Many above places":      with(full, func(e *api.End) { e.Out.Many, e.Sent = 65, 65 }),
		"Many very many":         with(up(0), func(e *api.End) { e.Out.Many = 1 << 32 }),
		"a text not in use":      with(some, func(e *api.End) { e.Out.Items[5] = []byte("x") }),
		"a text not in use, new": with(fresh, func(e *api.End) { e.Out.Items[63] = []byte("x") }),
		"a text behind those":    with(some, func(e *api.End) { e.Out.Items[1] = []byte("x") }),
		"Quiet -1":               with(some, func(e *api.End) { e.Quiet = -1 }),
		"Quiet -1, new":          with(fresh, func(e *api.End) { e.Quiet = -1 }),
		"Quiet as the config's":  with(some, func(e *api.End) { e.Quiet = c.Quiet }),
		"Quiet, new":             with(fresh, func(e *api.End) { e.Quiet = c.Quiet }),
		"Quiet, Dead":            with(fresh, func(e *api.End) { e.Quiet, e.Dead = c.Quiet, true }),
		"Quiet one more":         with(some, func(e *api.End) { e.Quiet = c.Quiet + 1 }),
		"Quiet least":            with(some, func(e *api.End) { e.Quiet = math.MinInt }),
		"Quiet most":             with(some, func(e *api.End) { e.Quiet = math.MaxInt }),
		"Quiet round":            with(some, func(e *api.End) { e.Quiet = 1 << 32 }),
	}
	for _, at := range []int{62, 63, 0} {
		l[fmt.Sprintf("no bytes at %d", at)] = with(some, func(e *api.End) { e.Out.Items[at] = []byte{} })
		for _, size := range []int{longest + 1, 2 * longest, 256, 257, 320, 1 << 16, 1<<16 + 1} {
			l[fmt.Sprintf("%d bytes at %d", size, at)] = with(some, func(e *api.End) { e.Out.Items[at] = make([]byte, size) })
		}
	}
	return l
}

// P17.1 to P17.3: each part of what makes an end one that may be, broken alone: all calls refuse it, ahead of all else.
func TestBroken(t *testing.T) {
	for _, c := range configs() {
		for name, e := range broken(c) {
			if may(c, e) {
				t.Fatalf("%s may be", name)
			}
			refuse(t, c, e)
			if t.Failed() {
				t.Fatal(name)
			}
		}
	}
}

// P17.1 to P17.3: a config that may not be is refused, whatever the end; and an end by a config whose Quiet it has reached.
func TestBrokenConfigs(t *testing.T) {
	r := seeded(3)
	for _, c := range wrongConfigs() {
		if configMay(c) {
			t.Fatalf("%v may be", c)
		}
		refuse(t, c, mustNew(t, 1))
		refuse(t, c, up(3).end())
		refuse(t, c, line{me: 1, dead: true}.end())
		refuse(t, c, api.End{})
		refuse(t, c, anyLine(r, sample()).end())
	}
	for quiet := range 65 {
		for most := 4; most <= 64; most++ {
			for _, l := range []line{{me: 1}, {me: 1, you: 1}, {me: 1, dead: true}, up(2)} {
				l.quiet = quiet
				holdCheck(t, config(2, most), l.end())
				if quiet >= most {
					refuse(t, config(2, most), l.end())
				}
			}
		}
	}
}

// P17.1, Check: an end of which several things are wrong, or right, at random.
func TestCheckMixed(t *testing.T) {
	r := seeded(4)
	good := 0
	for range 60000 {
		c := configs()[r.IntN(len(configs()))]
		e := mixedEnd(r, c)
		holdCheck(t, c, e)
		if may(c, e) {
			good++
		}
		if t.Failed() {
			t.FailNow()
		}
	}
	if good < 2000 {
		t.Errorf("%d ends alone may be", good)
	}
}

// mixedEnd is an end that may be, with up to three things of it turned, so that it may be or not.
func mixedEnd(r *rand.Rand, c api.Config) api.End {
	e := anyLine(r, c).end()
	for range r.IntN(4) {
		switch r.IntN(12) {
		case 0:
			e.Me = pick[uint32](r, 0, 1, top)
		case 1:
			e.You = pick(r, 0, 1, top, e.Me)
		case 2:
			e.Up = !e.Up
		case 3:
			e.Dead = !e.Dead
		case 4:
			e.Sent += pick[uint32](r, 1, top, 64, 1<<31)
		case 5:
			e.Done += pick[uint32](r, 1, top, 64, 1<<31)
		case 6:
			e.Got = pick[uint32](r, 0, 1, top)
		case 7:
			e.Quiet = pick(r, -1, 0, c.Quiet-1, c.Quiet, math.MaxInt, math.MinInt)
		case 8:
			e.Out.Head = pick(r, -1, 0, 1, 63, 64, math.MinInt, math.MaxInt)
		case 9:
			e.Out.Many += pick(r, -1, 1, 64, -64)
		case 10:
			e.Out.Items = e.Out.Items[:r.IntN(len(e.Out.Items)+1)]
		case 11:
			if many := len(e.Out.Items); many > 0 {
				e.Out.Items[r.IntN(many)] = make([]byte, pick(r, 0, 0, 1, 64, 65))
			}
		}
	}
	return e
}

// ends are ends that may be of that config, at random.
func ends(seed uint64, c api.Config, many int) []api.End {
	r := seeded(seed)
	l := []api.End{line{me: perBoot}.end(), line{me: perBoot, you: 2 * perBoot}.end(), up(0).end(), up(3).end(), up(64).end()}
	for len(l) < many {
		l = append(l, anyLine(r, c).end())
	}
	return l
}

// P17.2, Put: each length of a message, into ends that may be.
func TestPut(t *testing.T) {
	for _, c := range configs() {
		for _, e := range ends(5, c, 400) {
			for _, size := range []int{0, 1, 2, 63, 64, 65, 66, 128, 256, 257, 320, 65536, 65537} {
				holdPut(t, c, e, strings.Repeat("x", size))
			}
		}
	}
	for size := range 400 {
		holdPut(t, sample(), up(1).end(), strings.Repeat("y", size))
	}
}

// P17.2, Put: as many messages as Out has places stand one behind the other, from whatever head on, and then no more.
func TestPutAll(t *testing.T) {
	c := sample()
	for head := range places {
		l := line{me: 1, you: 1, up: true, head: head}
		e := l.end()
		for i, text := range named(places) {
			l.waits, l.sent = append(l.waits, text), uint32(i+1)
			got := put(c, e, []byte(text))
			hold(t, "a message more", got, answer{end: l.end()})
			e = got.end
		}
		hold(t, "one too many", put(c, e, []byte("x")), answer{e: api.ErrFull})
		if t.Failed() {
			t.FailNow()
		}
	}
}

// P17.2, Put: no message is put behind the number 2^32 - 1.
func TestPutLast(t *testing.T) {
	c := sample()
	for many := range places {
		l := up(many)
		l.sent, l.done = top-1, top-1-uint32(many)
		e := l.end()
		got := put(c, e, []byte("last"))
		l.sent, l.waits = top, append(l.waits, "last")
		hold(t, "the last message", got, answer{end: l.end()})
		hold(t, "one behind the last", put(c, got.end, []byte("x")), answer{e: api.ErrFull})
	}
}

// P17.2, Put: of several errors the one that the promise names first.
func TestPutErrors(t *testing.T) {
	c := sample()
	full, last, both := up(64), up(2), up(64)
	last.sent, last.done = top, top-2
	both.sent, both.done = top, top-64
	for _, at := range []struct {
		l          line
		size       int
		want, long api.Errno
	}{
		{line{me: 1}, 1, api.ErrLink, api.ErrLink},
		{line{me: 1, you: 1}, 64, api.ErrLink, api.ErrLink},
		{line{me: 1, dead: true}, 1, api.ErrLink, api.ErrLink},
		{up(0), 1, api.OK, api.ErrMany},
		{up(63), 64, api.OK, api.ErrMany},
		{full, 1, api.ErrFull, api.ErrMany},
		{last, 64, api.ErrFull, api.ErrMany},
		{both, 1, api.ErrFull, api.ErrMany},
	} {
		for _, size := range []int{at.size, 0, 65, 1000} {
			want := at.want
			if size != at.size {
				want = at.long
			}
			got := put(c, at.l.end(), make([]byte, size))
			if got.e != want || want != api.OK && !alike(got.end, api.End{}) {
				t.Errorf("Put of %d bytes to %s: error %d; want %d", size, shown(at.l.end()), got.e, want)
			}
		}
	}
}

// P17.3, Take: frames all numbers of which stand at an edge of those of the end.
func TestTake(t *testing.T) {
	for _, c := range configs()[:3] {
		for _, e := range ends(6, c, 130) {
			eachFrame(e, func(f api.Frame) { holdTake(t, c, e, f) })
			if t.Failed() {
				t.FailNow()
			}
		}
	}
}

// P17.3, Take: an Ack of each number beside those that wait takes as many out of Out as it is above Done, or none.
func TestTakeAcks(t *testing.T) {
	c := sample()
	for _, many := range []int{0, 1, 2, 3, 33, 63, 64} {
		for _, head := range []int{0, 1, 32, 63} {
			for _, done := range []uint32{0, 1, 100, top - uint32(many)} {
				l := up(many)
				l.head, l.done, l.sent, l.quiet = head, done, done+uint32(many), 3
				for step := -66; step <= 130; step++ {
					f := api.Frame{Me: l.you, You: l.me, Ack: done + uint32(step)}
					want := l
					want.quiet = 0
					if gone := int64(f.Ack) - int64(done); gone > 0 && gone <= int64(many) {
						want.waits, want.done, want.head = l.waits[gone:], f.Ack, (head+int(gone))%places
					}
					hold(t, fmt.Sprintf("Ack %d of %s", f.Ack, shown(l.end())), take(c, l.end(), f), answer{end: want.end()})
				}
			}
		}
	}
}

// P17.3, Take: a message comes, if its number is the next one; each length of it.
func TestTakeMessages(t *testing.T) {
	c := sample()
	for _, got := range []uint32{0, 1, 2, 255, 256, 65535, 1<<31 - 1, 1 << 31, top - 2, top - 1, top} {
		l := up(2)
		l.got = got
		for _, seq := range []uint32{0, 1, got - 1, got, got + 1, got + 2, got + 256, got + 1<<31, top} {
			for _, size := range []int{1, 2, 63, 64} {
				f := api.Frame{Me: l.you, You: l.me, Seq: seq, Body: []byte(strings.Repeat("m", size))}
				if seq == 0 {
					f.Body = nil
				}
				want := answer{}
				next := l
				if seq == got+1 && seq != 0 {
					next.got = seq
					want.come = []string{string(f.Body)}
				}
				want.end = next.end()
				hold(t, fmt.Sprintf("Seq %d, Got %d", seq, got), take(c, l.end(), f), want)
			}
		}
	}
}

// P17.3, Take: an end comes up by a frame for it, by a greeting or a message alike, and also where it learns of the other one by that frame.
func TestTakeUp(t *testing.T) {
	c := sample()
	for _, you := range []uint32{0, 1, 5, 8191, 8192} {
		for _, quiet := range []int{0, 1, 7} {
			l := line{me: 4096, you: you, quiet: quiet, head: 9}
			up := line{me: 4096, you: 8192, up: true, head: 9}
			if you < 8192 {
				up.head = 0
			}
			hold(t, "a greeting for it", take(c, l.end(), api.Frame{Me: 8192, You: 4096, Ack: 7}), answer{end: up.end(), told: []uint8{1}})
			up.got = 1
			f := api.Frame{Me: 8192, You: 4096, Seq: 1, Ack: 1, Body: []byte("x")}
			hold(t, "a message for it", take(c, l.end(), f), answer{end: up.end(), told: []uint8{1}, come: []string{"x"}})
			up.up, up.got = false, 0
			for _, other := range []uint32{0, 1, 4095, 4097, 8192, top} {
				f.You = other
				hold(t, "a message for another one", take(c, l.end(), f), answer{end: up.end()})
			}
		}
	}
}

// P17.3, Take: a session ends by a frame of a greater number: that is told ahead of LinkUp, and nothing of the session is left.
func TestTakeReset(t *testing.T) {
	c := sample()
	for _, many := range []int{0, 1, 64} {
		l := up(many)
		l.head, l.quiet, l.got = 63, 7, 5
		l.sent, l.done = l.sent+4, 4
		for _, me := range []uint32{8193, 8194, 12288, top} {
			next := line{me: 4096, you: me}
			f := api.Frame{Me: me, Seq: 6, Ack: 5, Body: []byte("x")}
			hold(t, "of a greater number", take(c, l.end(), f), answer{end: next.end(), told: []uint8{2}})
			next.up = true
			f.You = 4096
			hold(t, "of a greater number, for it", take(c, l.end(), f), answer{end: next.end(), told: []uint8{2, 1}})
			next.got = 1
			f.Seq = 1
			hold(t, "of a greater number, the first", take(c, l.end(), f), answer{end: next.end(), told: []uint8{2, 1}, come: []string{"x"}})
		}
		for _, me := range []uint32{1, 4096, 8190, 8191} {
			f := api.Frame{Me: me, You: 4096, Seq: 6, Ack: 5, Body: []byte("x")}
			hold(t, "of a less number", take(c, l.end(), f), answer{end: l.end()})
		}
	}
}

// P17.3, Take and Tick: a Dead end takes nothing, sends nothing, and tells nothing.
func TestDead(t *testing.T) {
	c := sample()
	for _, me := range []uint32{1, 4095, 4096, 8191, top} {
		for _, quiet := range []int{0, 1, 7} {
			l := line{me: me, dead: true, quiet: quiet, head: 5}
			for _, you := range []uint32{0, me, 1} {
				hold(t, "a greeting", take(c, l.end(), api.Frame{Me: 8192, You: you}), answer{end: l.end()})
				f := api.Frame{Me: 8192, You: you, Seq: 1, Body: []byte("x")}
				hold(t, "a message", take(c, l.end(), f), answer{end: l.end()})
			}
			hold(t, "a tick", tick(c, l.end()), answer{end: l.end()})
			hold(t, "a message put", put(c, l.end(), []byte("x")), answer{e: api.ErrLink})
		}
	}
}

// P17.3, Take: a frame that may not be is refused, by ends that may be, Dead ones too; behind an end that may not be.
func TestTakeErrors(t *testing.T) {
	wrong := []api.Frame{
		{}, {You: 4096}, {Seq: 1, Body: []byte("x")}, {Me: 8192, You: 4096, Seq: 1}, {Me: 8192, You: 4096, Body: []byte("x")},
		{Me: 8192, Seq: 1, Body: make([]byte, 65)}, {Me: 1, Seq: top}, {Me: 1, Seq: 1, Body: make([]byte, 1000)}, {Me: top, Body: make([]byte, 65)},
	}
	for _, c := range configs() {
		for _, e := range append(ends(7, c, 300), line{me: 9, dead: true}.end()) {
			for _, f := range wrong {
				hold(t, "Take of "+shownFrame(f), take(c, e, f), answer{e: api.ErrFrame})
				bad := e
				bad.Me = 0
				hold(t, "Take by an end without Me", take(c, bad, f), answer{e: api.ErrBad})
				bad = e
				bad.Quiet = c.Quiet
				hold(t, "Take by an end too quiet", take(c, bad, f), answer{e: api.ErrBad})
			}
		}
	}
}

// P17.3, Tick: ends that may be, of each Window, and each Quiet.
func TestTick(t *testing.T) {
	for _, c := range configs() {
		for _, e := range ends(8, c, 1500) {
			holdTick(t, c, e)
		}
	}
	for window := 1; window <= 4; window++ {
		for quiet := 4; quiet <= 64; quiet++ {
			for _, e := range ends(9, config(window, quiet), 60) {
				holdTick(t, config(window, quiet), e)
			}
		}
	}
}

// P17.3, Tick: the first messages are sent, as many as the window has, whatever the head, and whichever their numbers.
func TestTickWindow(t *testing.T) {
	for window := 1; window <= 4; window++ {
		c := config(window, 8)
		for many := range places + 1 {
			for _, head := range []int{0, 1, 60, 61, 62, 63} {
				for _, done := range []uint32{0, 1, 1 << 31, top - uint32(many)} {
					l := up(many)
					l.head, l.done, l.sent, l.got = head, done, done+uint32(many), 77
					want := l
					want.quiet = 1
					a := answer{end: want.end()}
					if many == 0 {
						a.sent = []api.Frame{{Me: 4096, You: 8192, Ack: 77}}
					}
					for i := 0; i < many && i < window; i++ {
						a.sent = append(a.sent, api.Frame{Me: 4096, You: 8192, Seq: done + 1 + uint32(i), Ack: 77, Body: []byte(l.waits[i])})
					}
					hold(t, fmt.Sprintf("Window %d, %s", window, shown(l.end())), tick(c, l.end()), a)
				}
			}
		}
	}
}

// P17.3, Tick: an end that hears nothing goes down just at the config's Quiet, up or not, and goes on by the next number.
func TestTickDown(t *testing.T) {
	for most := 4; most <= 64; most++ {
		c := config(2, most)
		for _, l := range []line{{me: 4096}, {me: 4096, you: 8192, head: 3}, up(0), up(3), up(64)} {
			e := l.end()
			for i := range most {
				got := must(t, tick(c, e))
				e = got.end
				if i < most-1 {
					l.quiet = i + 1
					if !alike(e, l.end()) || len(got.told) != 0 {
						t.Fatalf("behind %d ticks of %d: %s, told %v", i+1, most, shown(e), got.told)
					}
					continue
				}
				hold(t, "the last quiet tick", got, answer{end: line{me: 4097}.end(), told: []uint8{3}, sent: []api.Frame{{Me: 4097}}})
			}
		}
	}
}

// P17.3, Tick: behind the last number of a boot the end is Dead, whichever boot; not so behind the others.
func TestTickLast(t *testing.T) {
	c := sample()
	for _, boot := range []uint32{0, 1, 2, 255, 4095, 4096, lastOne - 1, lastOne} {
		for _, number := range []uint32{0, 1, 2, 1023, 2047, 2048, 4093, 4094, 4095} {
			me := boot*4096 + number
			if me == 0 {
				continue
			}
			for _, l := range []line{{me: me}, {me: me, you: 9}, up(0), up(64)} {
				l.me, l.quiet = me, 7
				want := answer{end: line{me: me, dead: true}.end(), told: []uint8{3}}
				if number != 4095 {
					want.end = line{me: me + 1}.end()
					want.sent = []api.Frame{{Me: me + 1}}
				}
				hold(t, fmt.Sprintf("Me %d", me), tick(c, l.end()), want)
				l.quiet = 6
				if got := must(t, tick(c, l.end())); got.end.Dead || got.end.Me != me || len(got.told) != 0 || len(got.sent) == 0 {
					t.Errorf("ahead of the last quiet tick: %s, told %v", shown(got.end), got.told)
				}
			}
		}
	}
}

// P17.3, Tick: a boot's numbers, all of them, one behind the other, from a new end on till it is Dead.
func TestWholeBoot(t *testing.T) {
	c := config(1, 4)
	for _, boot := range []uint32{1, lastOne} {
		e := mustNew(t, boot)
		for k := range 4096 {
			for i := range 4 {
				got := must(t, tick(c, e))
				if (len(got.told) != 0) != (i == 3) || len(got.sent) != 1 && k < 4095 {
					t.Fatalf("the tick %d of the number %d: told %v, sent %v", i, k, got.told, got.sent)
				}
				e = got.end
			}
			if want := boot*4096 + uint32(k) + 1; k < 4095 && (e.Me != want || e.Dead) || k == 4095 && (e.Me != want-1 || !e.Dead) {
				t.Fatalf("behind %d numbers: %s", k+1, shown(e))
			}
		}
	}
}

// turnedEnds are ends that differ from l in one thing each.
func turnedEnds(l line) []api.End {
	var out []api.End
	turn := func(change func(*api.End)) {
		e := l.end()
		change(&e)
		out = append(out, e)
	}
	for i := range 32 {
		turn(func(e *api.End) { e.Me ^= 1 << i })
		turn(func(e *api.End) { e.You ^= 1 << i })
		turn(func(e *api.End) { e.Sent ^= 1 << i })
		turn(func(e *api.End) { e.Done ^= 1 << i })
		turn(func(e *api.End) { e.Got ^= 1 << i })
	}
	for i := range 64 {
		turn(func(e *api.End) { e.Quiet ^= 1 << i })
		turn(func(e *api.End) { e.Out.Head ^= 1 << i })
		turn(func(e *api.End) { e.Out.Many ^= 1 << i })
		turn(func(e *api.End) { e.Out.Items[i] = append(e.Out.Items[i], 'x') })
		if len(l.waits) == places {
			turn(func(e *api.End) { e.Out.Items[i] = e.Out.Items[i][1:] })
			turn(func(e *api.End) { e.Out.Items[i][0]++ })
		}
	}
	turn(func(e *api.End) { e.Up = !e.Up })
	turn(func(e *api.End) { e.Dead = !e.Dead })
	turn(func(e *api.End) { e.Out.Items = e.Out.Items[:63] })
	turn(func(e *api.End) { e.Out.Items = nil })
	turn(func(e *api.End) { e.Out.Items = append(e.Out.Items, nil) })
	// Two numbers that stand one in the other one's place.
	turn(func(e *api.End) { e.Sent, e.Got = e.Got, e.Sent })
	turn(func(e *api.End) { e.Sent, e.Done = e.Done, e.Sent })
	turn(func(e *api.End) { e.Me, e.You = e.You, e.Me })
	turn(func(e *api.End) { e.Up, e.Dead = e.Dead, e.Up })
	turn(func(e *api.End) { e.Quiet, e.Out.Head = e.Out.Head, e.Quiet })
	return out
}

// P17.1, Same: ends that differ in one thing, and such as differ in none; whatever they are.
func TestSame(t *testing.T) {
	some := line{me: 5, you: 6, up: true, sent: 70, done: 6, got: 9, quiet: 3, head: 60, waits: named(64)}
	for _, l := range []line{some, {me: 4096, quiet: 2, got: 4, sent: 3, up: true}} {
		holdSame(t, l.end(), l.end(), true)
		holdSame(t, l.end(), roomyEnd(l), true)
		for i, e := range turnedEnds(l) {
			holdSame(t, l.end(), e, false)
			holdSame(t, e, sess.Twin(e), true)
			if t.Failed() {
				t.Fatal("turned in", i)
			}
		}
	}
	for _, e := range broken(sample()) {
		holdSame(t, e, sess.Twin(e), true)
	}
	nilled, emptied := line{me: 1}.end(), line{me: 1}.end()
	for i := range emptied.Out.Items {
		emptied.Out.Items[i] = []byte{}
	}
	holdSame(t, nilled, emptied, true)
	holdSame(t, api.End{}, api.End{Out: api.Queue{Items: [][]byte{}}}, true)
}

// P17.1, Twin: all is the same, whatever the end, and in new memory.
func TestTwin(t *testing.T) {
	r := seeded(10)
	l := ends(11, sample(), 200)
	for _, e := range broken(sample()) {
		l = append(l, e)
	}
	for range 500 {
		l = append(l, mixedEnd(r, sample()))
	}
	for _, e := range l {
		twin := sess.Twin(e)
		if !alike(twin, e) {
			t.Fatalf("the twin of %s is %s", shown(e), shown(twin))
		}
		again := sess.Twin(e)
		spoilEnd(twin)
		if !alike(again, e) {
			t.Fatalf("the twin of %s shares memory with another one", shown(e))
		}
		holdApart(t, "Twin", parts(again))
	}
	for range 200 {
		l := anyLine(r, sample())
		e := roomyEnd(l)
		twin := sess.Twin(e)
		spoilEnd(twin)
		holdHanded(t, "Twin", e, l)
		twin = sess.Twin(e)
		spoilEnd(e)
		if !alike(twin, l.end()) {
			t.Fatalf("the twin of %s shares memory with it", shown(l.end()))
		}
	}
}

// parts are all lists of bytes of an end.
func parts(e api.End) [][]byte { return e.Out.Items[:cap(e.Out.Items)] }

// holdApart holds that no two of these lists share memory, also in what lies in their capacity.
func holdApart(t *testing.T, call string, l [][]byte) {
	t.Helper()
	var had []string
	for _, b := range l {
		had = append(had, string(b[:cap(b)]))
	}
	for i, b := range l {
		spoil(b)
		for k, other := range l {
			if k != i && string(other[:cap(other)]) != had[k] {
				t.Fatalf("%s: the parts %d and %d share memory", call, i, k)
			}
		}
		had[i] = string(b[:cap(b)])
	}
}

// called are the lists of bytes of what a call answered, and of what was told, in their order; and the answer.
func called(c api.Config, e api.End, f api.Frame, b []byte) map[string]func() (answer, [][]byte) {
	return map[string]func() (answer, [][]byte){
		"Put": func() (answer, [][]byte) {
			out, err := sess.Put(c, e, b)
			return answer{end: out, e: err}, parts(out)
		},
		"Take": func() (answer, [][]byte) {
			out, come, told, err := sess.Take(c, e, f)
			l := append(slices.Clone(parts(out)), come[:cap(come)]...)
			return answer{end: out, come: texts(come), told: told, e: err}, append(l, told)
		},
		"Tick": func() (answer, [][]byte) {
			out, sent, told, err := sess.Tick(c, e)
			l := slices.Clone(parts(out))
			for _, f := range sent[:cap(sent)] {
				l = append(l, f.Body)
			}
			return answer{end: out, sent: sent, told: told, e: err}, append(l, told)
		},
		"Twin": func() (answer, [][]byte) {
			out := sess.Twin(e)
			return answer{end: out}, parts(out)
		},
	}
}

// shownAnswer is all of an answer, as a text.
func shownAnswer(a answer) string {
	var l []string
	for _, f := range a.sent {
		l = append(l, shownFrame(f)+string(f.Body))
	}
	for _, b := range a.end.Out.Items {
		l = append(l, string(b))
	}
	return fmt.Sprintf("%s %q %v %v %d", shown(a.end), a.come, l, a.told, a.e)
}

// P17.4: what is handed in is only read, also in what lies behind its lists, and what is answered shares no memory with it, nor any two parts of it with each other, nor with what is answered again.
func TestMemory(t *testing.T) {
	r := seeded(12)
	for _, c := range configs() {
		lines := []line{{me: 4096}, {me: 4096, you: 8192}, {me: 4095, quiet: c.Quiet - 1}, {me: 5, dead: true}, up(0), up(1), up(3), up(63), up(64)}
		for range 60 {
			lines = append(lines, anyLine(r, c))
		}
		for _, l := range lines {
			for _, f := range []api.Frame{
				{Me: max(l.you, 1), You: l.me, Seq: l.got + 1, Ack: l.done + 1, Body: roomy("a body")},
				{Me: max(l.you, 1), You: l.me, Seq: l.got + 1, Ack: l.sent, Body: roomy("another body")},
				{Me: top, You: l.me, Seq: 1, Body: roomy("of a new one")}, {Me: 1},
			} {
				if f.Seq == 0 {
					f.Body = nil
				}
				holdMemory(t, c, l, f)
				if t.Failed() {
					t.FailNow()
				}
			}
		}
	}
}

// holdMemory holds what TestMemory does, of an end and a frame.
func holdMemory(t *testing.T, c api.Config, l line, f api.Frame) {
	t.Helper()
	body := string(f.Body)
	for name := range called(c, api.End{}, f, nil) {
		e, b := roomyEnd(l), roomy("put")
		one := called(c, e, f, b)[name]
		first, list := one()
		want := shownAnswer(first)
		second, _ := one()
		third, apart := one()
		holdHanded(t, name, e, l)
		if !isAsHanded(b, "put") || !isAsHanded(f.Body, body) {
			t.Errorf("%s changes what was handed in", name)
		}
		for _, part := range list {
			spoil(part)
		}
		clear(first.end.Out.Items[:cap(first.end.Out.Items)])
		clear(first.sent[:cap(first.sent)])
		holdHanded(t, name+", and its answer spoilt", e, l)
		if !isAsHanded(b, "put") || !isAsHanded(f.Body, body) {
			t.Errorf("%s answers what was handed in", name)
		}
		if got := shownAnswer(second); got != want {
			t.Errorf("%s answers what it answered before: %s; want %s", name, got, want)
		}
		spoilEnd(e)
		spoil(b)
		spoil(f.Body)
		if got := shownAnswer(second); got != want || shownAnswer(third) != want {
			t.Errorf("%s answers what was handed in: %s; want %s", name, got, want)
		}
		copy(f.Body[:cap(f.Body)], body+behind)
		holdApart(t, name, apart)
	}
}

// P17.4: also where the parts that are handed in share memory: the places of Out among each other, and a frame's body, or a message, with them.
func TestSharedMemory(t *testing.T) {
	c := config(4, 8)
	for _, many := range []int{1, 2, 4, 5, 63} {
		one := []byte("one")
		l := up(0)
		l.sent = uint32(many)
		e := l.end()
		e.Out.Many = many
		for i := range many {
			e.Out.Items[i] = one
		}
		for name, call := range called(c, e, api.Frame{Me: 8192, You: 4096, Seq: 1, Ack: 1, Body: one}, one) {
			a, l := call()
			if a.e != api.OK {
				t.Fatalf("%s: error %d", name, a.e)
			}
			holdApart(t, name, l)
			if string(one) != "one" {
				t.Fatalf("%s answers what was handed in", name)
			}
		}
	}
}

// run is two ends, all that each of them sent ever, and what they have come to.
type run struct {
	t     *testing.T
	r     *rand.Rand
	c     api.Config
	ends  [2]api.End
	boots [2]uint32
	sent  [2][]api.Frame
	taken [2]map[int]bool // of this boot's end: which frames of the other one it took
	came  [2]map[int]bool // and of which of them the message has come: not always the first time, as it may stand ahead of another one
	ups   int
	comes int
	downs int
}

func newRun(t *testing.T, seed uint64) *run {
	u := &run{t: t, r: seeded(seed)}
	u.c = configs()[u.r.IntN(len(configs()))]
	for i := range u.ends {
		u.boot(i)
	}
	return u
}

func (u *run) boot(i int) {
	u.boots[i]++
	u.ends[i] = mustNew(u.t, u.boots[i])
	u.taken[i], u.came[i] = map[int]bool{}, map[int]bool{}
}

// goOn holds that a call's answer may be what became of an end, and takes it.
func (u *run) goOn(i int, a answer) {
	was, is := u.ends[i], must(u.t, a).end
	if err := sess.Check(u.c, is); err != api.OK || !may(u.c, is) {
		u.t.Fatalf("%s became %s, which may not be", shown(was), shown(is))
	}
	if is.Me < was.Me || is.Dead != was.Dead && is.Me != was.Me || was.Dead && !alike(was, is) {
		u.t.Fatalf("%s became %s: Me", shown(was), shown(is))
	}
	if is.You < was.You && (is.You != 0 || is.Me == was.Me && !is.Dead) {
		u.t.Fatalf("%s became %s: You", shown(was), shown(is))
	}
	u.ends[i] = is
	for _, kind := range a.told {
		if kind == api.LinkUp {
			u.ups++
		}
		if kind == api.LinkDown {
			u.downs++
		}
	}
	u.comes += len(a.come)
}

func (u *run) tick(i int) {
	a := tick(u.c, u.ends[i])
	u.goOn(i, a)
	u.sent[i] = append(u.sent[i], a.sent...)
}

// take takes the frame at of the other end, and the same once more: that tells nothing, nor does it where it had been taken before; and its message comes once.
func (u *run) take(i, at int) {
	f := u.sent[1-i][at]
	a := take(u.c, u.ends[i], f)
	u.goOn(i, a)
	again := take(u.c, u.ends[i], f)
	if len(again.told) != 0 || len(again.come) != 0 || !alike(again.end, u.ends[i]) {
		u.t.Fatalf("%s, taken twice in a row by %s: come %q, told %v", shownFrame(f), shown(u.ends[i]), again.come, again.told)
	}
	if u.taken[i][at] && len(a.told) != 0 || u.came[i][at] && len(a.come) != 0 {
		u.t.Fatalf("%s, taken too late by %s: come %q, told %v", shownFrame(f), shown(u.ends[i]), a.come, a.told)
	}
	u.taken[i][at] = true
	u.came[i][at] = u.came[i][at] || len(a.come) != 0
}

// step does something, at random; late tells how often, of 100, frames come that are not new.
func (u *run) step(late int) {
	i := u.r.IntN(2)
	switch n := u.r.IntN(100); {
	case n < 30:
		u.tick(i)
	case n < 50:
		if u.ends[i].Up && u.ends[i].Out.Many < places {
			u.goOn(i, put(u.c, u.ends[i], []byte(named(places)[u.r.IntN(places)])))
		}
	case n == 99 && u.r.IntN(10) == 0:
		u.boot(i)
	default:
		many := len(u.sent[1-i])
		if many == 0 {
			return
		}
		at := many - 1 - u.r.IntN(min(many, 4))
		if u.r.IntN(100) < late {
			at = u.r.IntN(many)
		}
		u.take(i, at)
	}
}

// P17.5: along runs of two ends, whose frames are lost, doubled and late, and that are booted anew: what may be stays so, Me and You never go back, but You to 0 with a new Me (or where the end is Dead), and a frame tells nothing the second time.
func TestWhatFollows(t *testing.T) {
	ups, comes, downs := 0, 0, 0
	for seed := range uint64(60) {
		u := newRun(t, 1000+seed)
		for range 1500 {
			u.step([]int{0, 10, 50, 100}[seed%4])
		}
		// All is quiet for a time.
		for range 2 * u.c.Quiet {
			u.tick(0)
		}
		ups, comes, downs = ups+u.ups, comes+u.comes, downs+u.downs
	}
	if ups < 200 || comes < 2000 || downs < 100 {
		t.Errorf("the runs have %d LinkUps, %d messages, %d LinkDowns alone", ups, comes, downs)
	}
}

// P17.5: a frame that is taken twice in a row tells nothing the second time, and turns nothing, whatever the end.
func TestTwice(t *testing.T) {
	for _, c := range configs()[:2] {
		for _, e := range ends(13, c, 120) {
			eachFrame(e, func(f api.Frame) {
				first := must(t, take(c, e, f))
				second := take(c, first.end, f)
				hold(t, "taken twice: "+shownFrame(f), second, answer{end: first.end})
			})
			if t.Failed() {
				t.FailNow()
			}
		}
	}
}

// P17.5: what may be stays so, behind each call that tells no error.
func TestStays(t *testing.T) {
	for _, c := range configs() {
		for _, e := range ends(14, c, 300) {
			l := []answer{tick(c, e), put(c, e, []byte("x"))}
			for _, f := range []api.Frame{{Me: 1}, {Me: top, You: e.Me}, {Me: max(e.You, 1), You: e.Me, Ack: e.Sent}, {Me: max(e.You, 1), You: e.Me, Seq: 1, Ack: e.Done + 1, Body: []byte("x")}} {
				l = append(l, take(c, e, f))
			}
			for _, a := range l {
				if a.e == api.OK && (sess.Check(c, a.end) != api.OK || !may(c, a.end)) {
					t.Fatalf("%s became %s", shown(e), shown(a.end))
				}
			}
		}
	}
}

// P17.3 and P17.5: messages come in their order, each once, over frames of which half are lost.
func TestLossy(t *testing.T) {
	r := seeded(16)
	c := config(3, 64)
	l := [2]api.End{mustNew(t, 1), mustNew(t, 2)}
	var come [2][]string
	sent := [2]int{}
	for range 600 {
		for i := range l {
			if l[i].Up && l[i].Out.Many < places && sent[i] < 100 {
				l[i] = must(t, put(c, l[i], fmt.Appendf(nil, "%d", sent[i]))).end
				sent[i]++
			}
			a := must(t, tick(c, l[i]))
			l[i] = a.end
			for _, f := range a.sent {
				if r.IntN(2) == 0 {
					got := must(t, take(c, l[1-i], f))
					l[1-i] = got.end
					come[1-i] = append(come[1-i], got.come...)
				}
			}
		}
	}
	for i := range l {
		if len(come[i]) != 100 || sent[1-i] != 100 || l[i].Out.Many != 0 || l[i].Done != 100 || l[i].Got != 100 {
			t.Fatalf("%d came to %d, of %d: %s", len(come[i]), i, sent[1-i], shown(l[i]))
		}
		for k, text := range come[i] {
			if text != fmt.Sprint(k) {
				t.Fatalf("the message %d is %q", k, text)
			}
		}
	}
}

// P1: each call ends, and none panics, whatever comes; the answers are those of the chapter's words.
func TestWhatever(t *testing.T) {
	r := seeded(15)
	for range 20000 {
		c := configs()[r.IntN(len(configs()))]
		if r.IntN(10) == 0 {
			c = wrongConfigs()[r.IntN(len(wrongConfigs()))]
		}
		e := mixedEnd(r, config(c.Window, max(c.Quiet&63, 4)))
		f := api.Frame{
			Me:   pick(r, 0, 1, e.You-1, e.You, e.You+1, e.You, top),
			You:  pick(r, 0, e.Me-1, e.Me, e.Me, e.Me, top),
			Seq:  pick(r, 0, 1, e.Got, e.Got+1, e.Got+1, e.Got+2, top),
			Ack:  pick(r, 0, e.Done, e.Done+1, e.Sent, e.Sent+1, top),
			Body: make([]byte, pick(r, 0, 1, 1, 1, 63, 64, 65, 1000)),
		}
		holdCheck(t, c, e)
		holdPut(t, c, e, strings.Repeat("z", pick(r, 0, 1, 64, 65, 1000)))
		holdTake(t, c, e, f)
		holdTick(t, c, e)
		if t.Failed() {
			t.FailNow()
		}
	}
}

// P1: ends and frames of very many bytes are refused, and told by Same and Twin.
func TestHuge(t *testing.T) {
	c := sample()
	e := up(2).end()
	e.Out.Items[1] = make([]byte, 1<<24)
	refuse(t, c, e)
	holdSame(t, e, sess.Twin(e), true)
	other := sess.Twin(e)
	other.Out.Items[1][1<<24-1]++
	holdSame(t, e, other, false)
	e = up(0).end()
	e.Out.Items = make([][]byte, 1<<20)
	refuse(t, c, e)
	holdSame(t, e, sess.Twin(e), true)
	huge := bytes.Repeat([]byte("h"), 1<<24)
	hold(t, "Put of very many bytes", put(c, up(0).end(), huge), answer{e: api.ErrMany})
	hold(t, "Take of very many bytes", take(c, up(0).end(), api.Frame{Me: 8192, Seq: 1, Body: huge}), answer{e: api.ErrFrame})
}

// P1: nothing is kept from call to call, whoever calls between.
func TestNothingIsKept(t *testing.T) {
	var all sync.WaitGroup
	shared := up(40).end()
	for i := range 16 {
		all.Add(1)
		go func() {
			defer all.Done()
			r := seeded(uint64(2000 + i))
			for range 200 {
				c := configs()[r.IntN(len(configs()))]
				// One end that all of them hand in, and one of their own.
				for _, e := range []api.End{shared, anyLine(r, c).end()} {
					holdCheck(t, c, e)
					holdPut(t, c, e, "x")
					holdTick(t, c, e)
					holdTake(t, c, e, api.Frame{Me: max(e.You, 1), You: e.Me, Seq: max(e.Got+1, 1), Ack: e.Done + 1, Body: []byte("y")})
				}
			}
		}()
	}
	all.Wait()
	if !alike(shared, up(40).end()) {
		t.Error("an end that all hand in is changed")
	}
}

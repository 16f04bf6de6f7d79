package sess_test

import (
	"bytes"
	"fmt"
	"math"
	"math/rand/v2"
	"slices"
	"strings"
	"testing"

	"catamaran/api"
	"catamaran/sess"
)

const (
	places  = 64 // of Out
	longest = 64 // bytes of a message
	perBoot = 4096
	lastOne = 1<<20 - 1 // the last boot
	top     = math.MaxUint32
)

func seeded(seed uint64) *rand.Rand { return rand.New(rand.NewPCG(seed, 17)) }

// config is one that may be, of which only the numbers that an end goes by are chosen.
func config(window, quiet int) api.Config {
	return api.Config{Pairs: 2, Tracks: 9, Area: 4, Most: 2, Window: window, Quiet: quiet}
}

// sample is the config of the chapter's examples.
func sample() api.Config { return config(2, 8) }

// configs are those at the edges of Window and Quiet.
func configs() []api.Config {
	return []api.Config{sample(), config(1, 4), config(4, 64), config(3, 5), config(1, 64), config(4, 4)}
}

// wrongConfigs are such as may not be, by one of their numbers each.
func wrongConfigs() []api.Config {
	l := []api.Config{{}}
	for _, n := range []int{-1, 0, math.MinInt, math.MaxInt, 1 << 32} {
		for _, of := range []func(*api.Config) *int{
			func(c *api.Config) *int { return &c.Pairs }, func(c *api.Config) *int { return &c.Tracks },
			func(c *api.Config) *int { return &c.Area }, func(c *api.Config) *int { return &c.Most },
			func(c *api.Config) *int { return &c.Window }, func(c *api.Config) *int { return &c.Quiet },
		} {
			c := sample()
			*of(&c) = n
			l = append(l, c)
		}
	}
	for _, c := range []api.Config{config(5, 8), config(64, 8), config(2, 3), config(2, 65)} {
		l = append(l, c)
	}
	c, d, e, f := sample(), sample(), sample(), sample()
	c.Pairs, d.Tracks, e.Area, f.Most = 4, 17, 3, 3
	return append(l, c, d, e, f)
}

// configMay tells whether a config may be, by the words of chapter 7.
func configMay(c api.Config) bool {
	within := func(n, least, most int) bool { return n >= least && n <= most }
	return within(c.Pairs, 1, 3) && within(c.Tracks, 1, 16) && within(c.Area, c.Pairs+2, 32) &&
		within(c.Most, 1, c.Pairs) && within(c.Window, 1, 4) && within(c.Quiet, 4, 64)
}

// line is an end in the chapter's words: what waits is a list, whose first one stands at the place head of Out.
type line struct {
	me, you         uint32
	up, dead        bool
	sent, done, got uint32
	quiet           int
	head            int
	waits           []string
}

// queue is Out with these in use, by the words of chapter 4.
func queue(head int, waits []string) api.Queue {
	q := api.Queue{Items: make([][]byte, places), Head: head, Many: len(waits)}
	for i, text := range waits {
		q.Items[(head+i)%places] = []byte(text)
	}
	return q
}

func (l line) end() api.End {
	return api.End{
		Me: l.me, You: l.you, Up: l.up, Dead: l.dead, Sent: l.sent, Done: l.done, Got: l.got, Quiet: l.quiet,
		Out: queue(l.head, l.waits),
	}
}

// lineOf tells an end that may be in the chapter's words.
func lineOf(e api.End) line {
	l := line{
		me: e.Me, you: e.You, up: e.Up, dead: e.Dead, sent: e.Sent, done: e.Done, got: e.Got, quiet: e.Quiet,
		head: e.Out.Head,
	}
	for i := range e.Out.Many {
		l.waits = append(l.waits, string(e.Out.Items[(e.Out.Head+i)%places]))
	}
	return l
}

// outMay tells whether Out may be that of an end in which so many wait, by the words of chapters 4 and 17.
func outMay(q api.Queue, many uint64) bool {
	if len(q.Items) != places || q.Head < 0 || q.Head > places-1 || q.Many < 0 || q.Many > places || uint64(q.Many) != many {
		return false
	}
	for i := range places {
		size := len(q.Items[(q.Head+i)%places])
		if i < q.Many && (size == 0 || size > longest) || i >= q.Many && size > 0 {
			return false
		}
	}
	return true
}

// may tells whether c and e may be, by the chapter's words.
func may(c api.Config, e api.End) bool {
	switch {
	case !configMay(c), e.Me == 0, e.Done > e.Sent, !outMay(e.Out, uint64(e.Sent)-uint64(e.Done)):
		return false
	case e.Quiet < 0, e.Quiet > c.Quiet-1:
		return false
	case e.You == 0 && e.Up, e.Dead && e.You > 0:
		return false
	}
	return e.Up || e.Sent+e.Done+e.Got == 0 && max(e.Sent, e.Done, e.Got) == 0
}

// frameMay tells whether a frame may be, by the words of chapter 15.
func frameMay(f api.Frame) bool {
	switch {
	case f.Me == 0:
		return false
	case f.Seq == 0:
		return len(f.Body) == 0
	}
	return len(f.Body) > 0 && len(f.Body) <= longest
}

// ended is an end whose session does.
func (l line) ended() line { return line{me: l.me, you: l.you, dead: l.dead, quiet: l.quiet} }

// answer is what a call has to answer.
type answer struct {
	end  api.End
	come []string
	sent []api.Frame
	told []uint8
	e    api.Errno
}

// toldPut is what Put has to answer, by the chapter's words.
func toldPut(c api.Config, e api.End, text string) answer {
	if !may(c, e) {
		return answer{e: api.ErrBad}
	}
	l := lineOf(e)
	switch {
	case !l.up:
		return answer{e: api.ErrLink}
	case text == "" || len(text) > longest:
		return answer{e: api.ErrMany}
	case len(l.waits) == places || l.sent == top:
		return answer{e: api.ErrFull}
	}
	l.waits = append(l.waits, text)
	l.sent++
	return answer{end: l.end()}
}

// toldTake is what Take has to answer, by the chapter's words.
func toldTake(c api.Config, e api.End, f api.Frame) answer {
	if !may(c, e) {
		return answer{e: api.ErrBad}
	}
	if !frameMay(f) {
		return answer{e: api.ErrFrame}
	}
	l := lineOf(e)
	if l.dead || f.Me < l.you {
		return answer{end: l.end()}
	}
	var a answer
	if f.Me > l.you {
		if l.up {
			a.told = append(a.told, 2)
		}
		l = l.ended()
		l.you = f.Me
	}
	l.quiet = 0
	if f.You == l.me {
		if !l.up {
			l.up = true
			a.told = append(a.told, 1)
		}
		if f.Ack > l.done && f.Ack <= l.sent {
			gone := int(f.Ack - l.done)
			l.waits, l.head, l.done = l.waits[gone:], (l.head+gone)%places, f.Ack
		}
		if f.Seq > 0 && uint64(f.Seq) == uint64(l.got)+1 {
			l.got = f.Seq
			a.come = append(a.come, string(f.Body))
		}
	}
	a.end = l.end()
	return a
}

// toldTick is what Tick has to answer, by the chapter's words.
func toldTick(c api.Config, e api.End) answer {
	if !may(c, e) {
		return answer{e: api.ErrBad}
	}
	l := lineOf(e)
	if l.dead {
		return answer{end: l.end()}
	}
	var a answer
	if l.quiet++; l.quiet == c.Quiet {
		l = l.ended()
		l.you, l.quiet = 0, 0
		a.told = append(a.told, 3)
		if l.me%4096 == 4095 {
			l.dead = true
			a.end = l.end()
			return a
		}
		l.me++
	}
	a.end = l.end()
	for i := range min(c.Window, len(l.waits)) {
		a.sent = append(a.sent, api.Frame{Me: l.me, You: l.you, Seq: l.done + uint32(1+i), Ack: l.got, Body: []byte(l.waits[i])})
	}
	if len(l.waits) == 0 {
		a.sent = append(a.sent, api.Frame{Me: l.me, You: l.you, Ack: l.got})
	}
	return a
}

func alikeQueues(a, b api.Queue) bool {
	return a.Head == b.Head && a.Many == b.Many && slices.EqualFunc(a.Items, b.Items, bytes.Equal)
}

// alike tells whether all is the same.
func alike(a, b api.End) bool {
	return [5]uint32{a.Me, a.You, a.Sent, a.Done, a.Got} == [5]uint32{b.Me, b.You, b.Sent, b.Done, b.Got} &&
		a.Up == b.Up && a.Dead == b.Dead && a.Quiet == b.Quiet && alikeQueues(a.Out, b.Out)
}

func alikeFrames(a, b api.Frame) bool {
	return [4]uint32{a.Me, a.You, a.Seq, a.Ack} == [4]uint32{b.Me, b.You, b.Seq, b.Ack} && string(a.Body) == string(b.Body)
}

// shown is an end for a test's message, without places that have no bytes, and the rest of long texts.
func shown(e api.End) string {
	var l []string
	for i, b := range e.Out.Items {
		if len(b) > 0 && len(l) < 5 {
			l = append(l, fmt.Sprintf("%d: %q", i, b[:min(len(b), 12)]))
		}
	}
	return fmt.Sprintf("Me %d, You %d, Up %v, Dead %v, Sent %d, Done %d, Got %d, Quiet %d, Out %d of %d from %d on: %s",
		e.Me, e.You, e.Up, e.Dead, e.Sent, e.Done, e.Got, e.Quiet, e.Out.Many, len(e.Out.Items), e.Out.Head, strings.Join(l, " "))
}

func shownFrame(f api.Frame) string {
	return fmt.Sprintf("Me %d, You %d, Seq %d, Ack %d, %d bytes %q", f.Me, f.You, f.Seq, f.Ack, len(f.Body), f.Body[:min(len(f.Body), 12)])
}

func texts(l [][]byte) []string {
	var out []string
	for _, b := range l {
		out = append(out, string(b))
	}
	return out
}

// hold holds what was answered against what had to be.
func hold(t *testing.T, call string, got, want answer) {
	t.Helper()
	if got.e != want.e || !alike(got.end, want.end) {
		t.Errorf("%s: %s; error %d; want %s; error %d", call, shown(got.end), got.e, shown(want.end), want.e)
	}
	if !slices.Equal(got.come, want.come) || !slices.Equal(got.told, want.told) {
		t.Errorf("%s: come is %q, told %v; want %q, %v", call, got.come, got.told, want.come, want.told)
	}
	if !slices.EqualFunc(got.sent, want.sent, alikeFrames) {
		t.Errorf("%s: sent is %v; want %v", call, got.sent, want.sent)
	}
}

func put(c api.Config, e api.End, b []byte) answer {
	out, err := sess.Put(c, e, b)
	return answer{end: out, e: err}
}

func take(c api.Config, e api.End, f api.Frame) answer {
	out, come, told, err := sess.Take(c, e, f)
	return answer{end: out, come: texts(come), told: told, e: err}
}

func tick(c api.Config, e api.End) answer {
	out, sent, told, err := sess.Tick(c, e)
	return answer{end: out, sent: sent, told: told, e: err}
}

func holdCheck(t *testing.T, c api.Config, e api.End) {
	t.Helper()
	want := api.OK
	if !may(c, e) {
		want = api.ErrBad
	}
	if err := sess.Check(c, e); err != want {
		t.Errorf("Check of %v and %s: error %d; want %d", c, shown(e), err, want)
	}
}

func holdPut(t *testing.T, c api.Config, e api.End, text string) {
	t.Helper()
	hold(t, fmt.Sprintf("Put of %d bytes to %s", len(text), shown(e)), put(c, e, []byte(text)), toldPut(c, e, text))
}

func holdTake(t *testing.T, c api.Config, e api.End, f api.Frame) {
	t.Helper()
	got, want := take(c, e, f), toldTake(c, e, f)
	hold(t, fmt.Sprintf("Take of %s by %s", shownFrame(f), shown(e)), got, want)
}

func holdTick(t *testing.T, c api.Config, e api.End) {
	t.Helper()
	hold(t, fmt.Sprintf("Tick of Window %d, Quiet %d, %s", c.Window, c.Quiet, shown(e)), tick(c, e), toldTick(c, e))
}

// refuse holds that each call refuses an end, or its config, by ErrBad, beside which nothing stands, whatever else is wrong.
func refuse(t *testing.T, c api.Config, e api.End) {
	t.Helper()
	if err := sess.Check(c, e); err != api.ErrBad {
		t.Errorf("Check of %v and %s: error %d", c, shown(e), err)
	}
	want := answer{e: api.ErrBad}
	for _, size := range []int{0, 1, longest, longest + 1} {
		hold(t, fmt.Sprintf("Put to %s", shown(e)), put(c, e, make([]byte, size)), want)
	}
	for _, f := range []api.Frame{{}, {Me: 1}, {Me: top, You: e.Me}, {Me: max(e.You, 1), You: e.Me, Seq: 1, Body: []byte("x")}, {Me: 1, Seq: 1}} {
		hold(t, fmt.Sprintf("Take by %s", shown(e)), take(c, e, f), want)
	}
	hold(t, fmt.Sprintf("Tick of %s", shown(e)), tick(c, e), want)
}

func mustNew(t *testing.T, boot uint32) api.End {
	t.Helper()
	e, err := sess.New(boot)
	if err != api.OK {
		t.Fatalf("New(%d): error %d", boot, err)
	}
	return e
}

// must fails the test where a call answered an error, and tells its answer.
func must(t *testing.T, a answer) answer {
	t.Helper()
	if a.e != api.OK {
		t.Fatalf("error %d", a.e)
	}
	return a
}

func holdSame(t *testing.T, a, b api.End, want bool) {
	t.Helper()
	if sess.Same(a, b) != want || sess.Same(b, a) != want {
		t.Errorf("Same of %s and %s: %v, %v; want %v", shown(a), shown(b), sess.Same(a, b), sess.Same(b, a), want)
	}
}

// named are so many messages, no two of which are the same, of many lengths; some are as long as they may be, some of one byte.
func named(many int) []string {
	var l []string
	for i := range many {
		text := string(rune('0' + i))
		if i%3 == 1 {
			text = fmt.Sprintf("message %d", i)
		}
		if i%3 == 2 {
			text = strings.Repeat(text, longest)
		}
		l = append(l, text)
	}
	return l
}

// up is an end that is up, Quiet 0, of the boot 1 and another one of the boot 2, in which so many messages wait.
func up(many int) line {
	return line{me: perBoot, you: 2 * perBoot, up: true, sent: uint32(many), waits: named(many)}
}

// pick tells one of a list.
func pick[T any](r *rand.Rand, l ...T) T { return l[r.IntN(len(l))] }

// anyLine is an end that may be, of that config, whose numbers often stand at an edge.
func anyLine(r *rand.Rand, c api.Config) line {
	last := uint32(perBoot*(1+r.IntN(lastOne)) + perBoot - 1)
	l := line{
		me:    pick(r, 1, 2, perBoot-1, perBoot, perBoot+1, 2*perBoot-1, last, last-1, last, last-1, perBoot*lastOne, top-1, top, 1+uint32(r.IntN(top))),
		quiet: pick(r, 0, 1, c.Quiet-2, c.Quiet-1, r.IntN(c.Quiet)),
		head:  pick(r, 0, 0, 1, 62, 63, r.IntN(places)),
	}
	switch r.IntN(6) {
	case 0:
		l.dead = true
		return l
	case 1:
		return l
	}
	l.you = pick(r, 1, 2, perBoot, l.me, max(l.me, 2)-1, top-1, top, 1+uint32(r.IntN(top)))
	if r.IntN(4) == 0 {
		return l
	}
	l.up = true
	many := pick(r, 0, 1, 2, 3, 4, 5, 63, 64, r.IntN(places+1))
	l.waits = named(many)
	l.done = pick(r, 0, 0, 1, 5, top-uint32(many), top-1-uint32(many), uint32(r.IntN(top-places)))
	l.sent = l.done + uint32(many)
	l.got = pick(r, 0, 0, 1, 7, top-1, top, uint32(r.IntN(top)))
	return l
}

// unique tells a list without doubles.
func unique[T comparable](l ...T) []T {
	var out []T
	for _, x := range l {
		if !slices.Contains(out, x) {
			out = append(out, x)
		}
	}
	return out
}

// eachFrame hands on frames that may be, all numbers of which stand at an edge of those of e.
func eachFrame(e api.End, hand func(api.Frame)) {
	for _, me := range unique(1, e.You-1, e.You, e.You+1, e.Me, top) {
		for _, you := range unique(0, e.Me-1, e.Me, e.Me+1) {
			for _, ack := range unique(0, e.Done-1, e.Done, e.Done+1, e.Done+2, e.Sent-1, e.Sent, e.Sent+1, top) {
				for _, seq := range unique(0, 1, e.Got-1, e.Got, e.Got+1, e.Got+2, top) {
					f := api.Frame{Me: max(me, 1), You: you, Seq: seq, Ack: ack}
					if seq > 0 {
						f.Body = []byte("a body")
					}
					hand(f)
				}
			}
		}
	}
}

const behind = "----"

// roomy is a text with more behind its end.
func roomy(text string) []byte { return append([]byte(text), behind...)[:len(text)] }

// isAsHanded tells whether b is as roomy made it.
func isAsHanded(b []byte, text string) bool {
	return string(b) == text && (cap(b) < len(b)+len(behind) || string(b[len(b):len(b)+len(behind)]) == behind)
}

// roomyEnd is an end, each list of which has more behind its end.
func roomyEnd(l line) api.End {
	e := l.end()
	e.Out.Items = append(e.Out.Items, []byte(behind), nil)[:places]
	for i, b := range e.Out.Items {
		if len(b) > 0 || i%2 == 0 {
			e.Out.Items[i] = roomy(string(b))
		}
	}
	return e
}

// holdHanded holds that an end is as roomyEnd made it.
func holdHanded(t *testing.T, call string, e api.End, l line) {
	t.Helper()
	if !alike(e, l.end()) {
		t.Errorf("%s: what was handed in is changed: %s; it was %s", call, shown(e), shown(l.end()))
	}
	more := e.Out.Items[places : places+2]
	if string(more[0]) != behind || more[1] != nil {
		t.Errorf("%s: what lies behind Out is changed: %q", call, more)
	}
	for i, b := range e.Out.Items {
		if !isAsHanded(b, string(b)) {
			t.Errorf("%s: what lies behind the place %d of Out is changed", call, i)
		}
	}
}

// spoil changes a list, and what lies in its capacity.
func spoil(b []byte) {
	b = b[:cap(b)]
	for i := range b {
		b[i] += 99
	}
}

// spoilEnd changes all lists of an end.
func spoilEnd(e api.End) {
	l := e.Out.Items[:cap(e.Out.Items)]
	for i := range l {
		spoil(l[i])
		l[i] = []byte("spoilt")
	}
}

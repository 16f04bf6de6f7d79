package ring_test

import (
	"bytes"
	"fmt"
	"math"
	"math/rand/v2"
	"slices"
	"strings"
	"testing"

	"catamaran/api"
	"catamaran/ring"
)

const most = 64 // places of a queue

func rooms() []int { return []int{1, 2, 3, 7, 32, 63, 64} }

// noRooms are numbers of places of which no queue has so many.
func noRooms() []int {
	return []int{0, -1, -2, -63, -64, -65, 65, 66, 127, 128, 256, 257, 321, math.MaxInt, math.MinInt, math.MaxInt - 63, math.MinInt + 1, math.MaxInt32, math.MinInt32, 1<<32 + 1, 1<<40 + 64}
}

func seeded(seed uint64) *rand.Rand { return rand.New(rand.NewPCG(seed, 4)) }

// laid is the chapter's words for a queue: of so many places, where the texts stand one behind the other from the head on, and behind the last place comes the first one.
func laid(room, head int, texts ...string) api.Queue {
	q := api.Queue{Items: make([][]byte, room), Head: head, Many: len(texts)}
	place := head
	for _, text := range texts {
		q.Items[place] = []byte(text)
		place++
		if place == room {
			place = 0
		}
	}
	return q
}

// named are texts of which no two are the same.
func named(many int) []string {
	var l []string
	for i := range many {
		l = append(l, fmt.Sprintf("text %d", i))
	}
	return l
}

// long are texts of many sizes: some are empty, some are alike.
func long(r *rand.Rand, many int) []string {
	var l []string
	for range many {
		size := []int{0, 0, 1, 2, 20, 64, 300, 5000}[r.IntN(8)]
		l = append(l, strings.Repeat(string(rune('a'+r.IntN(3))), size))
	}
	return l
}

// counts are numbers of texts of a queue: none, one, all but one, all.
func counts(room int) []int {
	l := []int{0, 1, room / 2, room - 1, room}
	slices.Sort(l)
	return slices.Compact(l)
}

func heads(room int) []int {
	l := []int{0, 1, room / 2, room - 1}
	slices.Sort(l)
	l = slices.Compact(l)
	return slices.DeleteFunc(l, func(head int) bool { return head >= room })
}

// each hands on queues of all rooms, heads and counts that stand at an edge, and what they are made of.
func each(f func(room, head int, texts []string)) {
	for _, room := range rooms() {
		for _, head := range heads(room) {
			for _, many := range counts(room) {
				f(room, head, named(many))
			}
		}
	}
}

func alike(a, b api.Queue) bool {
	return a.Head == b.Head && a.Many == b.Many && slices.EqualFunc(a.Items, b.Items, bytes.Equal)
}

// shown is q for a test's message, without the rest of long texts.
func shown(q api.Queue) string {
	var l []string
	for _, b := range q.Items {
		l = append(l, string(b[:min(len(b), 20)]))
	}
	return fmt.Sprintf("%q from %d on, %d", l, q.Head, q.Many)
}

func told(l [][]byte) []string {
	var texts []string
	for _, b := range l {
		texts = append(texts, string(b))
	}
	return texts
}

func mustNew(t *testing.T, room int) api.Queue {
	t.Helper()
	q, e := ring.New(room)
	if e != api.OK {
		t.Fatalf("New(%d): error %d", room, e)
	}
	return q
}

func mustPush(t *testing.T, q api.Queue, b []byte) api.Queue {
	t.Helper()
	out, e := ring.Push(q, b)
	if e != api.OK {
		t.Fatalf("Push(%s, %q): error %d", shown(q), b, e)
	}
	return out
}

func mustPop(t *testing.T, q api.Queue) (api.Queue, []byte) {
	t.Helper()
	out, b, e := ring.Pop(q)
	if e != api.OK {
		t.Fatalf("Pop(%s): error %d", shown(q), e)
	}
	return out, b
}

func mustList(t *testing.T, q api.Queue) [][]byte {
	t.Helper()
	l, e := ring.List(q)
	if e != api.OK {
		t.Fatalf("List(%s): error %d", shown(q), e)
	}
	return l
}

// nothing tells whether a queue has no part.
func nothing(q api.Queue) bool { return len(q.Items) == 0 && q.Head == 0 && q.Many == 0 }

func refuseNew(t *testing.T, room int) {
	t.Helper()
	if q, e := ring.New(room); !nothing(q) || e != api.ErrArg {
		t.Errorf("New(%d): %s, error %d; want nothing, error %d", room, shown(q), e, api.ErrArg)
	}
}

func refusePush(t *testing.T, q api.Queue, b []byte, want api.Errno) {
	t.Helper()
	if out, e := ring.Push(q, b); !nothing(out) || e != want {
		t.Errorf("Push(%s, %q): %s, error %d; want nothing, error %d", shown(q), b, shown(out), e, want)
	}
}

func refusePop(t *testing.T, q api.Queue, want api.Errno) {
	t.Helper()
	if out, b, e := ring.Pop(q); !nothing(out) || len(b) != 0 || e != want {
		t.Errorf("Pop(%s): %s, %q, error %d; want nothing, error %d", shown(q), shown(out), b, e, want)
	}
}

// refuseAll holds that q may not be, and that all calls that ask so tell it, and nothing beside.
func refuseAll(t *testing.T, q api.Queue) {
	t.Helper()
	if e := ring.Check(q); e != api.ErrBad {
		t.Errorf("Check(%s): %d; want %d", shown(q), e, api.ErrBad)
	}
	refusePush(t, q, []byte("new"), api.ErrBad)
	refusePush(t, q, nil, api.ErrBad)
	refusePop(t, q, api.ErrBad)
	if l, e := ring.List(q); len(l) != 0 || e != api.ErrBad {
		t.Errorf("List(%s): %q, error %d; want nothing, error %d", shown(q), l, e, api.ErrBad)
	}
	holdTwin(t, q)
}

// holdQueue holds that got is the queue that is wanted, that it may be, and that List tells its texts.
func holdQueue(t *testing.T, got, want api.Queue, texts []string) {
	t.Helper()
	if !alike(got, want) {
		t.Errorf("%s; want %s", shown(got), shown(want))
	}
	if e := ring.Check(got); e != api.OK {
		t.Errorf("Check(%s): %d", shown(got), e)
	}
	if l := told(mustList(t, got)); !slices.Equal(l, texts) {
		t.Errorf("List(%s): %q; want %q", shown(got), l, texts)
	}
}

// holdTwin holds that q's twin is the same as q, and shares no memory with it, whatever q is.
func holdTwin(t *testing.T, q api.Queue) {
	t.Helper()
	copied := cloned(q)
	twin := ring.Twin(q)
	if !alike(twin, q) || !ring.Same(twin, q) || !ring.Same(q, twin) {
		t.Errorf("the twin of %s: %s", shown(q), shown(twin))
	}
	spoil(twin)
	if !alike(q, copied) {
		t.Errorf("the twin of %s shares its memory", shown(copied))
	}
	twin = ring.Twin(copied)
	spoil(copied)
	if !alike(twin, q) {
		t.Errorf("the twin of %s shares its memory", shown(q))
	}
}

// cloned is q in other memory, text by text.
func cloned(q api.Queue) api.Queue {
	var items [][]byte
	for _, b := range q.Items {
		items = append(items, bytes.Clone(b))
	}
	return api.Queue{Items: items, Head: q.Head, Many: q.Many}
}

// spoil changes all of a queue's memory, also what lies in the capacities.
func spoil(q api.Queue) {
	items := q.Items[:cap(q.Items)]
	for i := range items {
		spoilText(items[i])
		items[i] = []byte("spoilt")
	}
}

func spoilText(b []byte) {
	b = b[:cap(b)]
	for i := range b {
		b[i] += 99
	}
}

// The chapter's examples.
func TestExamples(t *testing.T) {
	q := mustPush(t, mustPush(t, mustNew(t, 2), []byte("a")), []byte("b"))
	refusePush(t, q, []byte("c"), api.ErrFull)
	q, b := mustPop(t, q)
	if string(b) != "a" {
		t.Errorf("popped %q", b)
	}
	q = mustPush(t, q, []byte("c"))
	want := api.Queue{Items: [][]byte{[]byte("c"), []byte("b")}, Head: 1, Many: 2}
	holdQueue(t, q, want, []string{"b", "c"})
	refusePush(t, q, []byte("d"), api.ErrFull)
}

// P4.1, New: each room that may be.
func TestNew(t *testing.T) {
	for room := 1; room <= most; room++ {
		q := mustNew(t, room)
		holdQueue(t, q, laid(room, 0), nil)
		refusePop(t, q, api.ErrNone)
	}
}

// P4.1, New: rooms that may not be.
func TestNewWrong(t *testing.T) {
	for _, room := range noRooms() {
		refuseNew(t, room)
	}
}

// P4.1, Check: each room, each head, and each number of texts that may be.
func TestCheck(t *testing.T) {
	for room := 1; room <= most; room++ {
		texts := named(room)
		for head := range room {
			for many := 0; many <= room; many++ {
				q := laid(room, head, texts[:many]...)
				if e := ring.Check(q); e != api.OK {
					t.Fatalf("Check(%s): %d", shown(q), e)
				}
			}
		}
	}
}

// P4.1, Check: texts in use have as many bytes as they like, also none; places that are free have none, be they nil or empty.
func TestCheckTexts(t *testing.T) {
	r := seeded(1)
	each(func(room, head int, texts []string) {
		q := laid(room, head, long(r, len(texts))...)
		if e := ring.Check(q); e != api.OK {
			t.Errorf("Check(%s): %d", shown(q), e)
		}
		for i := range q.Items {
			if len(q.Items[i]) == 0 {
				q.Items[i] = [][]byte{nil, {}, make([]byte, 0, 9)}[r.IntN(3)]
			}
		}
		if e := ring.Check(q); e != api.OK {
			t.Errorf("Check(%s) with empty texts and nil ones: %d", shown(q), e)
		}
	})
}

// P4.1, Check, and P4.2, all others' first error: no places, or too many.
func TestWrongRoom(t *testing.T) {
	for _, room := range []int{0, 65, 66, 128, 129, 256, 1000} {
		for _, many := range []int{0, 1, 64, room} {
			for _, head := range []int{0, 1, 63, 64, room - 1, room} {
				q := api.Queue{Items: make([][]byte, room), Head: head, Many: many}
				refuseAll(t, q)
			}
		}
	}
	refuseAll(t, api.Queue{})
	refuseAll(t, api.Queue{Items: make([][]byte, 0, 64), Many: 1})
}

// P4.1, Check, and P4.2, all others' first error: a head at no place.
func TestWrongHead(t *testing.T) {
	each(func(room, _ int, texts []string) {
		for _, head := range []int{room, room + 1, 2 * room, 64 + room, -1, -room, -room - 1, -64, math.MaxInt, math.MinInt, math.MaxInt - room, 1 << 32, -1 << 32, 1 << 40} {
			q := laid(room, 0, texts...)
			q.Head = head
			refuseAll(t, q)
		}
	})
}

// P4.1, Check, and P4.2, all others' first error: fewer texts than none, or more than there are places.
func TestWrongMany(t *testing.T) {
	each(func(room, head int, texts []string) {
		for _, many := range []int{room + 1, room + 2, 2 * room, 65 + room, -1, -2, -room, -64, math.MaxInt, math.MinInt, math.MaxInt - room, 1 << 32, -1 << 32, 1<<40 + room} {
			q := laid(room, head, texts...)
			q.Many = many
			refuseAll(t, q)
		}
	})
}

// P4.1, Check, and P4.2, all others' first error: bytes at a place that is free, whichever it is; also where nothing is to be popped, and where one is.
func TestWrongFree(t *testing.T) {
	each(func(room, head int, texts []string) {
		for i := len(texts); i < room; i++ {
			for _, b := range [][]byte{{0}, []byte("x"), make([]byte, 300)} {
				q := laid(room, head, texts...)
				q.Items[(head+i)%room] = b
				refuseAll(t, q)
			}
		}
	})
}

// P4.2, Push: behind the last one, at each head, till the queue is full.
func TestPush(t *testing.T) {
	each(func(room, head int, _ []string) {
		texts := named(room)
		q := laid(room, head)
		for i := range texts {
			q = mustPush(t, q, []byte(texts[i]))
			holdQueue(t, q, laid(room, head, texts[:i+1]...), texts[:i+1])
		}
		refusePush(t, q, []byte("more"), api.ErrFull)
		refusePush(t, q, nil, api.ErrFull)
		refusePush(t, q, []byte{}, api.ErrFull)
	})
}

// P4.2, Pop: the first one, at each head, till there is none; its place is free then, and the next one is the head.
func TestPop(t *testing.T) {
	each(func(room, head int, _ []string) {
		texts := named(room)
		q := laid(room, head, texts...)
		for i := range texts {
			var b []byte
			q, b = mustPop(t, q)
			if string(b) != texts[i] {
				t.Errorf("popped %q; want %q", b, texts[i])
			}
			holdQueue(t, q, laid(room, (head+i+1)%room, texts[i+1:]...), texts[i+1:])
		}
		refusePop(t, q, api.ErrNone)
	})
}

// P4.2: texts without bytes are pushed, listed and popped as others are, and so are long ones.
func TestTexts(t *testing.T) {
	huge := bytes.Repeat([]byte{255, 0, 7}, 50000)
	for _, b := range [][]byte{nil, {}, {0}, {0, 0}, []byte("a"), []byte("two"), huge} {
		q := mustPush(t, mustNew(t, 1), b)
		if q.Many != 1 || !bytes.Equal(q.Items[0], b) {
			t.Errorf("a text of %d: %d pushed", len(b), q.Many)
		}
		if l := mustList(t, q); len(l) != 1 || !bytes.Equal(l[0], b) {
			t.Errorf("a text of %d is not listed", len(b))
		}
		refusePush(t, q, b, api.ErrFull)
		q, out := mustPop(t, q)
		if !bytes.Equal(out, b) {
			t.Errorf("a text of %d was popped as one of %d", len(b), len(out))
		}
		holdQueue(t, q, laid(1, 0), nil)
	}
	q := mustPush(t, mustPush(t, mustPush(t, mustNew(t, 4), nil), []byte("a")), nil)
	if l := told(mustList(t, q)); !slices.Equal(l, []string{"", "a", ""}) {
		t.Errorf("nothing, a, nothing: %q", l)
	}
}

// P4.2, List: all in use, in order, at each head; it changes nothing.
func TestList(t *testing.T) {
	r := seeded(2)
	each(func(room, head int, texts []string) {
		for _, l := range [][]string{texts, long(r, len(texts))} {
			holdQueue(t, laid(room, head, l...), laid(room, head, l...), l)
		}
	})
}

// P4.1, Same: queues that are the same, with empty texts as nil ones.
func TestSame(t *testing.T) {
	each(func(room, head int, texts []string) {
		a, b := laid(room, head, texts...), laid(room, head, texts...)
		holdSame(t, a, b, true)
		holdSame(t, a, a, true)
		for i := range b.Items {
			if len(b.Items[i]) == 0 {
				b.Items[i] = make([]byte, 0, 5)
			}
		}
		holdSame(t, a, b, true)
	})
	holdSame(t, api.Queue{}, api.Queue{Items: [][]byte{}}, true)
	holdSame(t, laid(2, 1, "", "b"), laid(2, 1, "", "b"), true)
}

func holdSame(t *testing.T, a, b api.Queue, want bool) {
	t.Helper()
	if ring.Same(a, b) != want || ring.Same(b, a) != want {
		t.Errorf("Same(%s, %s): %v, %v; want %v", shown(a), shown(b), ring.Same(a, b), ring.Same(b, a), want)
	}
}

// P4.1, Same: queues that differ in one thing alone; also where what is in use is the same.
func TestNotSame(t *testing.T) {
	each(func(room, head int, texts []string) {
		a := laid(room, head, texts...)
		for _, b := range turned(a) {
			holdSame(t, a, b, false)
		}
	})
	holdSame(t, laid(3, 0, "a"), laid(3, 1, "a"), false)
	holdSame(t, laid(3, 0, "a"), laid(4, 0, "a"), false)
	holdSame(t, laid(3, 0), laid(3, 2), false)
	holdSame(t, laid(3, 0), laid(3, 0, ""), false)
	holdSame(t, laid(2, 0, "ab", ""), laid(2, 0, "a", "b"), false)
}

// turned are values that differ from q in one thing each.
func turned(q api.Queue) []api.Queue {
	var l []api.Queue
	for _, by := range []int{1, -1, 64, 1 << 32, math.MinInt} {
		other := cloned(q)
		other.Head += by
		l = append(l, other)
		other = cloned(q)
		other.Many += by
		l = append(l, other)
	}
	for i, b := range q.Items {
		others := [][]byte{append(bytes.Clone(b), 0)}
		if len(b) > 0 {
			first, last := bytes.Clone(b), bytes.Clone(b)
			first[0]++
			last[len(b)-1] ^= 128
			others = append(others, nil, b[:len(b)-1], first, last)
		}
		for _, text := range others {
			other := cloned(q)
			other.Items[i] = text
			l = append(l, other)
		}
	}
	more, fewer := cloned(q), cloned(q)
	more.Items = append(more.Items, nil)
	l = append(l, more)
	if len(q.Items) > 0 {
		fewer.Items = fewer.Items[:len(q.Items)-1]
		l = append(l, fewer)
	}
	return l
}

// strange are values of which none is a queue that may be.
func strange() []api.Queue {
	full := api.Queue{Items: make([][]byte, 65), Head: 64, Many: 65}
	for i := range full.Items {
		full.Items[i] = []byte{byte(i)}
	}
	return []api.Queue{
		{},
		{Items: [][]byte{}, Head: -1, Many: 1},
		{Head: 3, Many: 5},
		{Head: math.MinInt, Many: math.MaxInt},
		{Items: [][]byte{nil}, Head: 1},
		{Items: [][]byte{[]byte("free")}},
		{Items: [][]byte{nil, []byte("b")}, Head: -1, Many: 1},
		{Items: [][]byte{[]byte("a"), []byte("b")}, Head: math.MaxInt, Many: math.MaxInt},
		{Items: [][]byte{[]byte("a"), []byte("b")}, Many: -1},
		{Items: [][]byte{[]byte("a"), []byte("b")}, Many: 3},
		full,
	}
}

// P4.1, Same and Twin: of values that are no queues, as of others.
func TestStrange(t *testing.T) {
	l := strange()
	for i, a := range l {
		refuseAll(t, a)
		holdTwin(t, a)
		for k, b := range strange() {
			holdSame(t, a, b, i == k)
		}
		for _, b := range turned(a) {
			holdSame(t, a, b, false)
		}
	}
}

// P4.1, Twin: of queues, at each head.
func TestTwin(t *testing.T) {
	r := seeded(3)
	each(func(room, head int, texts []string) {
		holdTwin(t, laid(room, head, texts...))
		holdTwin(t, laid(room, head, long(r, len(texts))...))
	})
	if twin := ring.Twin(api.Queue{Head: 7, Many: -9}); len(twin.Items) != 0 || twin.Head != 7 || twin.Many != -9 {
		t.Errorf("a twin of no places: %s", shown(twin))
	}
}

// spacious lays a queue's texts into one list, with bytes between them, and its places into a longer one.
func spacious(q api.Queue) (laid api.Queue, room []byte, items [][]byte) {
	for _, b := range q.Items {
		room = append(append(room, b...), "----"...)
	}
	at := 0
	for _, b := range q.Items {
		items = append(items, room[at:at+len(b)])
		at += len(b) + 4
	}
	items = append(items, []byte("behind"), []byte("the end"))
	return api.Queue{Items: items[:len(q.Items)], Head: q.Head, Many: q.Many}, room, items
}

// P4.3: what is handed in is as it was, also behind its end and between its texts.
func TestOnlyRead(t *testing.T) {
	each(func(room, head int, texts []string) {
		want := laid(room, head, texts...)
		q, memory, items := spacious(want)
		memory0 := bytes.Clone(memory)
		text := append([]byte("new"), "----"...)
		ring.Check(q)
		ring.Push(q, text[:3])
		ring.Pop(q)
		ring.List(q)
		ring.Same(q, q)
		ring.Same(q, want)
		ring.Same(want, q)
		ring.Twin(q)
		if !alike(q, want) || !bytes.Equal(memory, memory0) || string(text) != "new----" {
			t.Errorf("%s was handed in, and is %s", shown(want), shown(q))
		}
		if behind := told(items[room:]); !slices.Equal(behind, []string{"behind", "the end"}) {
			t.Errorf("behind the places of %s stands %q", shown(want), behind)
		}
	})
}

// P4.3: a change of what Push answered changes neither what was handed in nor another answer; nor does a change of that change the answer.
func TestPushNewMemory(t *testing.T) {
	each(func(room, head int, texts []string) {
		if len(texts) == room {
			return
		}
		want := laid(room, head, append(slices.Clone(texts), "new")...)
		q, memory, items := spacious(laid(room, head, texts...))
		text := append([]byte("new"), "----"...)
		one, two := mustPush(t, q, text[:3]), mustPush(t, q, text[:3])
		spoil(one)
		if third := mustPush(t, q, text[:3]); !alike(third, want) || !alike(two, want) || string(text) != "new----" {
			t.Errorf("%s: an answer shares memory", shown(want))
		}
		spoilAll(text, memory, items)
		if !alike(two, want) {
			t.Errorf("%s: the answer shares memory with what was handed in: %s", shown(want), shown(two))
		}
	})
}

func spoilAll(text, memory []byte, items [][]byte) {
	spoilText(text)
	spoilText(memory)
	for i := range items {
		items[i] = []byte("spoilt")
	}
}

// P4.3: the same of Pop, whose text shares nothing with its queue.
func TestPopNewMemory(t *testing.T) {
	each(func(room, head int, texts []string) {
		if len(texts) == 0 {
			return
		}
		want, first := laid(room, (head+1)%room, texts[1:]...), texts[0]
		q, memory, items := spacious(laid(room, head, texts...))
		one, b := mustPop(t, q)
		spoilText(b)
		if !alike(one, want) {
			t.Errorf("%s: the text that was popped shares memory with its queue", shown(want))
		}
		two, b := mustPop(t, q)
		spoil(two)
		if string(b) != first {
			t.Errorf("%s: the queue shares memory with the text that was popped", shown(want))
		}
		third, b := mustPop(t, q)
		if !alike(one, want) || !alike(third, want) || string(b) != first {
			t.Errorf("%s: an answer shares memory", shown(want))
		}
		spoilAll(nil, memory, items)
		if !alike(third, want) || string(b) != first {
			t.Errorf("%s: the answer shares memory with what was handed in: %s, %q", shown(want), shown(third), b)
		}
	})
}

// P4.3: the same of List, of which no two texts share memory.
func TestListNewMemory(t *testing.T) {
	each(func(room, head int, texts []string) {
		q, memory, items := spacious(laid(room, head, texts...))
		one, two := mustList(t, q), mustList(t, q)
		for i := range one {
			spoilText(one[i])
			if !slices.Equal(told(one[i+1:]), texts[i+1:]) {
				t.Errorf("%q: a text shares memory with one behind it", texts)
			}
			one[i] = []byte("spoilt")
		}
		for i := len(two) - 1; i >= 0; i-- {
			spoilText(two[i])
			if !slices.Equal(told(two[:i]), texts[:i]) {
				t.Errorf("%q: a text shares memory with one ahead of it", texts)
			}
		}
		third := mustList(t, q)
		if !slices.Equal(told(third), texts) {
			t.Errorf("%q: lists share memory: %q", texts, third)
		}
		spoilAll(nil, memory, items)
		if !slices.Equal(told(third), texts) {
			t.Errorf("%q: a list shares memory with what was handed in: %q", texts, third)
		}
	})
}

// P4.3: no two texts of an answer share memory, also where all those that were handed in are one.
func TestOneTextOften(t *testing.T) {
	for _, room := range rooms() {
		text := []byte("one")
		full := api.Queue{Items: slices.Repeat([][]byte{text}, room), Head: room - 1, Many: room}
		nearly := full
		nearly.Items = slices.Repeat([][]byte{text}, room)
		nearly.Items[(full.Head+room-1)%room], nearly.Many = nil, room-1
		popped, b := mustPop(t, full)
		holdApart(t, append(popped.Items, b), "one")
		holdApart(t, mustPush(t, nearly, text).Items, "one")
		holdApart(t, ring.Twin(full).Items, "one")
		holdApart(t, mustList(t, full), "one")
		if string(text) != "one" {
			t.Errorf("the text that was handed in is %q", text)
		}
	}
}

// holdApart holds that each text, or nothing, is as it should be when all those ahead of it are spoilt.
func holdApart(t *testing.T, l [][]byte, want string) {
	t.Helper()
	for i, b := range l {
		if len(b) != 0 && string(b) != want {
			t.Errorf("text %d shares memory: %q", i, b)
		}
		spoilText(b)
	}
}

// P4.3: a new queue is new each time.
func TestNewNewMemory(t *testing.T) {
	for _, room := range rooms() {
		one, two := mustNew(t, room), mustNew(t, room)
		spoil(one)
		if third := mustNew(t, room); !alike(two, laid(room, 0)) || !alike(third, laid(room, 0)) {
			t.Errorf("new queues of %d share memory", room)
		}
	}
}

// P4.4: what was pushed first is popped first, over long runs that go round the end many times.
func TestFirstIsFirst(t *testing.T) {
	r := seeded(4)
	for _, room := range rooms() {
		q := mustNew(t, room)
		var waits []string
		head, next := 0, 0
		for step := range 2000 {
			// some runs fill the queue, others drain it
			if r.IntN(10) < 3+step/200%2*4 {
				text := fmt.Sprintf("text %d", next)
				next++
				if len(waits) == room {
					refusePush(t, q, []byte(text), api.ErrFull)
					continue
				}
				q = mustPush(t, q, []byte(text))
				waits = append(waits, text)
			} else {
				if len(waits) == 0 {
					refusePop(t, q, api.ErrNone)
					continue
				}
				var b []byte
				q, b = mustPop(t, q)
				if string(b) != waits[0] {
					t.Fatalf("room %d, step %d: popped %q; want %q", room, step, b, waits[0])
				}
				waits = waits[1:]
				head = (head + 1) % room
			}
			holdQueue(t, q, laid(room, head, waits...), waits)
		}
	}
}

// P4.4: what is popped of a queue is what List tells of it, and what is pushed into a new one makes the same list again.
func TestThereAndBack(t *testing.T) {
	r := seeded(5)
	each(func(room, head int, texts []string) {
		q := laid(room, head, long(r, len(texts))...)
		l := mustList(t, q)
		again := mustNew(t, room)
		for i := range l {
			var b []byte
			q, b = mustPop(t, q)
			if !bytes.Equal(b, l[i]) {
				t.Errorf("popped %q; listed %q", b, l[i])
			}
			again = mustPush(t, again, b)
		}
		if !slices.Equal(told(mustList(t, again)), told(l)) {
			t.Errorf("%q became %s", l, shown(again))
		}
		refusePop(t, q, api.ErrNone)
	})
}

// P1: each call ends, and none panics, whatever comes; beside an error there is nothing, and the error is the one named first.
func TestWhatever(t *testing.T) {
	r := seeded(6)
	for range 20000 {
		q := anyQueue(r)
		b := []byte(long(r, 1)[0])
		holdTwin(t, q)
		if other := anyQueue(r); ring.Same(q, other) != alike(q, other) {
			t.Errorf("Same(%s, %s): %v", shown(q), shown(other), ring.Same(q, other))
		}
		texts, may := read(q)
		if !may {
			refuseAll(t, q)
			continue
		}
		room := len(q.Items)
		holdQueue(t, q, q, texts)
		if len(texts) == room {
			refusePush(t, q, b, api.ErrFull)
		} else {
			more := append(slices.Clone(texts), string(b))
			holdQueue(t, mustPush(t, q, b), laid(room, q.Head, more...), more)
		}
		if len(texts) == 0 {
			refusePop(t, q, api.ErrNone)
		} else {
			out, first := mustPop(t, q)
			if string(first) != texts[0] {
				t.Errorf("Pop(%s): %q", shown(q), first)
			}
			holdQueue(t, out, laid(room, (q.Head+1)%room, texts[1:]...), texts[1:])
		}
	}
}

// anyQueue is often one that may be, and else one that nearly may be.
func anyQueue(r *rand.Rand) api.Queue {
	room := []int{0, 1, 1, 2, 2, 3, 5, 63, 64, 65}[r.IntN(10)]
	q := api.Queue{Items: make([][]byte, room), Head: r.IntN(room + 1), Many: r.IntN(room + 1)}
	for i := range q.Items {
		if (i-q.Head+room)%room < q.Many && r.IntN(9) > 0 {
			q.Items[i] = []byte{byte(r.IntN(2))}
		}
	}
	odd := []int{-1, -room, room, room + 1, 64, 65, math.MaxInt, math.MinInt}
	switch r.IntN(20) {
	case 0:
		q.Head = odd[r.IntN(len(odd))]
	case 1:
		q.Many = odd[r.IntN(len(odd))]
	case 2:
		if room > 0 {
			q.Items[r.IntN(room)] = []byte("odd")
		}
	}
	return q
}

// read tells a queue's texts, and whether it may be: all its places are told, one behind the other, till the head comes again.
func read(q api.Queue) (texts []string, may bool) {
	room := len(q.Items)
	if room < 1 || room > most || q.Head < 0 || q.Head >= room || q.Many < 0 || q.Many > room {
		return nil, false
	}
	all := slices.Concat(told(q.Items[q.Head:]), told(q.Items[:q.Head]))
	for _, text := range all[q.Many:] {
		if text != "" {
			return nil, false
		}
	}
	return all[:q.Many], true
}

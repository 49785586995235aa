package events_test

import (
	"fmt"
	"maps"
	"math"
	"math/rand/v2"
	"slices"
	"strings"
	"testing"

	"lading/api"
	"lading/events"
)

func reads(t *testing.T, l []api.Event, stream string, from, most int, want []api.Event, why api.Errno) {
	t.Helper()
	before := slices.Clone(l)
	if k, got := events.Read(l, stream, from, most); !slices.Equal(k, want) || got != why {
		t.Errorf("Read of %.20q from %d, most %d: %d events, error %d, and not %d, error %d", stream, from, most, len(k), got, len(want), why)
	}
	if !slices.Equal(l, before) {
		t.Error("Read has changed what it was handed")
	}
}

func readsAll(t *testing.T, l []api.Event, from, most int, want []api.Event, why api.Errno) {
	t.Helper()
	before := slices.Clone(l)
	if k, got := events.All(l, from, most); !slices.Equal(k, want) || got != why {
		t.Errorf("All from %d, most %d: %d events, error %d, and not %d, error %d", from, most, len(k), got, len(want), why)
	}
	if !slices.Equal(l, before) {
		t.Error("All has changed what it was handed")
	}
}

// only are the events of a stream.
func only(l []api.Event, stream string) []api.Event {
	var k []api.Event
	for _, e := range l {
		if e.Stream == stream {
			k = append(k, e)
		}
	}
	return k
}

// part are the first most events from a place (from 1 on) on.
func part(l []api.Event, from, most int) []api.Event {
	l = l[min(from-1, len(l)):]
	return l[:min(most, len(l))]
}

// five are events of three streams, in turn.
func five() []api.Event {
	return []api.Event{event("b", 1, 1, "m", "x"), event("a", 1, 2, "m", "y"), event("b", 2, 3, "", "z"), event("a\x00", 1, 4, "n", ""), event("b", 3, 5, "n", "z")}
}

// Promise 12.3: reads from 0, 1, the last one and beyond, with most below 0, 0, less and more than there is.
func TestRead(t *testing.T) {
	for _, l := range [][]api.Event{nil, {}, three(), five(), many(20)} {
		for _, stream := range []string{"a", "b", "s", "a\x00", "", "none", strings.Repeat("t", api.MaxText+1)} {
			mine := only(l, stream)
			for _, from := range []int{1, 2, 3, len(mine), len(mine) + 1, len(mine) + 2, len(l), math.MaxInt} {
				if from < 1 {
					continue
				}
				for _, most := range []int{0, 1, 2, len(mine), len(mine) + 1, math.MaxInt} {
					reads(t, l, stream, from, most, part(mine, from, most), api.OK)
				}
				for _, most := range []int{-1, -2, math.MinInt} {
					reads(t, l, stream, from, most, nil, api.ErrRange)
				}
			}
			for _, from := range []int{0, -1, math.MinInt} {
				for _, most := range []int{-1, 0, 1, 9} {
					reads(t, l, stream, from, most, nil, api.ErrRange)
				}
			}
		}
	}
	reads(t, five(), "b", 2, 1, five()[2:3], api.OK)
	reads(t, five(), "b", 2, 9, []api.Event{five()[2], five()[4]}, api.OK)
}

// Promise 12.3: the same of all events, by their places among all.
func TestAll(t *testing.T) {
	for _, l := range [][]api.Event{nil, {}, three(), five(), many(20)} {
		for _, from := range []int{1, 2, 3, len(l) - 1, len(l), len(l) + 1, math.MaxInt} {
			if from < 1 {
				continue
			}
			for _, most := range []int{0, 1, 2, len(l), len(l) + 1, math.MaxInt} {
				readsAll(t, l, from, most, part(l, from, most), api.OK)
			}
			for _, most := range []int{-1, math.MinInt} {
				readsAll(t, l, from, most, nil, api.ErrRange)
			}
		}
		for _, from := range []int{0, -1, math.MinInt} {
			for _, most := range []int{-1, 0, 1, 9} {
				readsAll(t, l, from, most, nil, api.ErrRange)
			}
		}
	}
	full := many(api.MaxEvents)
	readsAll(t, full, 1, api.MaxEvents, full, api.OK)
	readsAll(t, full, api.MaxEvents, 9, full[api.MaxEvents-1:], api.OK)
	reads(t, full, "s", 2, api.MaxEvents, full[1:], api.OK)
}

// Promise 12.3: where a mark is: in its stream alone.
func TestMarked(t *testing.T) {
	long := strings.Repeat("t", api.MaxText)
	l := append(five(), event(long, 1, 6, long, ""))
	cases := []struct {
		stream, mark string
		want         int
	}{
		{"b", "m", 1}, {"b", "n", 3}, {"a", "m", 1}, {"a", "n", 0}, {"a\x00", "n", 1}, {"a\x00", "m", 0},
		{"b", "", 0}, {"a", "", 0}, {"", "", 0}, {"", "m", 0}, {"none", "m", 0}, {"b", "z", 0}, {"b", "b", 0}, {"b", "mn", 0},
		{long, long, 1}, {long + "t", long, 0}, {long, long + "t", 0},
	}
	for _, c := range cases {
		if n, why := events.Marked(l, c.stream, c.mark); n != c.want || why != api.OK {
			t.Errorf("Marked of %.20q in %.20q: %d, error %d, and not %d", c.mark, c.stream, n, why, c.want)
		}
		if n, why := events.Marked(nil, c.stream, c.mark); n != 0 || why != api.OK {
			t.Error("Marked in nothing:", n, why)
		}
	}
	if !slices.Equal(l[:5], five()) {
		t.Error("Marked has changed what it was handed")
	}
}

// Promise 12.3: all streams that have events, rising by their bytes, each once.
func TestStreams(t *testing.T) {
	cases := []struct{ order, want []string }{
		{nil, nil},
		{[]string{"a"}, []string{"a"}},
		{[]string{"b", "a", "b", "a\x00", "b"}, []string{"a", "a\x00", "b"}},
		{[]string{"z", "\xff", "Z", "\x00", "ä", "z", "zz", "10", "9"}, []string{"\x00", "10", "9", "Z", "z", "zz", "ä", "\xff"}},
	}
	for _, c := range cases {
		var l []api.Event
		for _, stream := range c.order {
			l, _, _ = events.Append(l, stream, -1, "", []string{"x"})
		}
		if len(l) != len(c.order) {
			t.Fatal("Append:", l)
		}
		before := slices.Clone(l)
		if k, why := events.Streams(l); !slices.Equal(k, c.want) || why != api.OK {
			t.Errorf("Streams: %q, error %d, and not %q", k, why, c.want)
		}
		if !slices.Equal(l, before) {
			t.Error("Streams has changed what it was handed")
		}
	}
}

// spoilAll has a list and what is behind it, up to its capacity, be something else.
func spoilAll(l []api.Event) {
	l = l[:cap(l)]
	for i := range l {
		l[i] = event("spoilt", -1, -1, "spoilt", "spoilt")
	}
}

// Promise 12.4: answers share no memory with what was handed in, nor with one another.
func TestNewMemory(t *testing.T) {
	for _, spare := range []int{0, 9} {
		l := append(make([]api.Event, 0, 5+spare), five()...)
		data := []string{"p", "q"}
		answers := func() [][]api.Event {
			longer, _, why1 := events.Append(l, "b", 3, "", data)
			same, _, why2 := events.Append(l, "b", 3, "m", data)
			none, _, why3 := events.Append(l, "b", 3, "", nil)
			read, why4 := events.Read(l, "b", 1, 9)
			all, why5 := events.All(l, 1, 9)
			last, why6 := events.All(l, 4, 1)
			for _, why := range []api.Errno{why1, why2, why3, why4, why5, why6} {
				must(t, why)
			}
			return [][]api.Event{longer, same, none, read, all, last}
		}
		first, second := answers(), answers()
		for i, k := range first {
			want := slices.Clone(second[i])
			spoilAll(k)
			if !slices.Equal(l, five()) || !slices.Equal(l[:cap(l)][5:], make([]api.Event, spare)) {
				t.Fatal("answer", i, "shares memory with what was handed in")
			}
			if !slices.Equal(second[i], want) {
				t.Fatal("answer", i, "shares memory with a later one")
			}
			for j := i + 1; j < len(first); j++ {
				if !slices.Equal(first[j], second[j]) {
					t.Fatal("answers", i, "and", j, "share memory")
				}
			}
		}
		spoilAll(l)
		data[0] = "spoilt"
		if !slices.Equal(second[0][:5], five()) || second[0][5].Data != "p" || !slices.Equal(second[4], five()) {
			t.Error("an answer has changed with what was handed in")
		}
	}
	streams, _ := events.Streams(five())
	again, _ := events.Streams(five())
	streams[0] = "spoilt"
	if again[0] != "a" {
		t.Error("Streams shares memory:", again)
	}
}

// model is streams as plain lists of texts, and where marks are in them.
type model struct {
	data   map[string][]string
	marks  map[string]map[string]int
	global []api.Event
}

// append is what Append should do.
func (m *model) append(stream string, expected int, mark string, data []string) (int, api.Errno) {
	has := len(m.data[stream])
	if _, is := m.marks[stream][mark]; is {
		return has, api.OK
	}
	if expected >= 0 && expected != has {
		return 0, api.ErrConflict
	}
	for i, s := range data {
		e := event(stream, has+i+1, len(m.global)+1, "", s)
		if i == 0 && mark != "" {
			e.Mark = mark
			if m.marks[stream] == nil {
				m.marks[stream] = map[string]int{}
			}
			m.marks[stream][mark] = e.Num
		}
		m.data[stream] = append(m.data[stream], s)
		m.global = append(m.global, e)
	}
	return len(m.data[stream]), api.OK
}

// hold holds all that can be asked of events against the model.
func (m *model) hold(t *testing.T, l []api.Event) {
	t.Helper()
	must(t, events.Check(l))
	if !slices.Equal(l, m.global) {
		t.Fatal("other events than there should be")
	}
	streams, why := events.Streams(l)
	if !slices.Equal(streams, slices.Sorted(maps.Keys(m.data))) || why != api.OK {
		t.Fatal("Streams:", streams, why)
	}
	var joined []api.Event
	for _, stream := range streams {
		k, why := events.Read(l, stream, 1, len(l))
		must(t, why)
		for i, e := range k {
			if e.Stream != stream || e.Num != i+1 || e.Data != m.data[stream][i] {
				t.Fatal("Read of", stream, ":", e)
			}
		}
		joined = append(joined, k...)
		for mark, num := range m.marks[stream] {
			if n, why := events.Marked(l, stream, mark); n != num || why != api.OK {
				t.Fatal("Marked:", n, why, "and not", num)
			}
		}
	}
	slices.SortFunc(joined, func(a, b api.Event) int { return a.Global - b.Global })
	all, why := events.All(l, 1, len(l))
	if !slices.Equal(joined, all) || !slices.Equal(all, l) || why != api.OK {
		t.Fatal("all streams, read by themselves, are not all events")
	}
}

// Promises 12.2, 12.3 and 12.5 to 12.8: over long runs all is as in a plain model: nothing is lost, nothing done twice, and streams read by themselves are all events.
func TestLongRuns(t *testing.T) {
	for seed := range uint64(30) {
		r := rand.New(rand.NewPCG(12, seed))
		m := &model{data: map[string][]string{}, marks: map[string]map[string]int{}}
		var l []api.Event
		count := map[api.Errno]int{}
		for n := range 120 {
			stream := string(rune('a' + r.IntN(4)))
			expected := len(m.data[stream])
			if r.IntN(3) == 0 {
				expected = r.IntN(expected+3) - 1
			}
			mark := ""
			if r.IntN(2) == 0 {
				mark = fmt.Sprint("m", r.IntN(20))
			}
			var data []string
			for i := range r.IntN(4) {
				data = append(data, fmt.Sprint(n, "-", i))
			}
			before := l
			next, has, why := events.Append(l, stream, expected, mark, data)
			want, wantWhy := m.append(stream, expected, mark, data)
			if has != want || why != wantWhy {
				t.Fatal("Append:", has, why, "and not", want, wantWhy)
			}
			count[why]++
			if why != api.OK {
				m.hold(t, l)
				continue
			}
			l = next
			if len(l) < len(before) || !slices.Equal(l[:len(before)], before) {
				t.Fatal("events are lost")
			}
			m.hold(t, l)
			if again, k, why := events.Append(l, stream, expected, mark, data); mark != "" && len(data) > 0 && (!slices.Equal(again, l) || k != has || why != api.OK) {
				t.Fatal("with a mark once more:", len(again), k, why)
			}
			if len(data) > 0 && len(l) > len(before) && expected >= 0 {
				if k, n, why := events.Append(l, stream, expected, "", data); len(k) != 0 || n != 0 || why != api.ErrConflict {
					t.Fatal("a second one that expects the same:", len(k), n, why)
				}
			}
		}
		if count[api.OK] < 20 || count[api.ErrConflict] < 5 {
			t.Error("too few answers of a kind:", count)
		}
	}
}

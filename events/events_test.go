package events_test

import (
	"fmt"
	"math"
	"slices"
	"strings"
	"testing"

	"lading/api"
	"lading/events"
)

func must(t *testing.T, why api.Errno) {
	t.Helper()
	if why != api.OK {
		t.Fatal("error", why)
	}
}

func event(stream string, num, global int, mark, data string) api.Event {
	return api.Event{Stream: stream, Num: num, Global: global, Mark: mark, Data: data}
}

// three are events of two streams: a 1, b 1, a 2.
func three() []api.Event {
	return []api.Event{event("a", 1, 1, "m", "x"), event("b", 1, 2, "m", "y"), event("a", 2, 3, "", "z")}
}

// many are n events of a stream, without marks.
func many(n int) []api.Event {
	var l []api.Event
	for i := range n {
		l = append(l, event("s", i+1, i+1, "", "d"))
	}
	return l
}

// appends tells what Append answers, and that it neither changes nor keeps what it is handed.
func appends(t *testing.T, l []api.Event, stream string, expected int, mark string, data []string, want []api.Event, n int, why api.Errno) {
	t.Helper()
	before, texts := slices.Clone(l), slices.Clone(data)
	k, has, got := events.Append(l, stream, expected, mark, data)
	if !slices.Equal(k, want) || has != n || got != why {
		t.Errorf("Append of %d to %.20q, expected %d, mark %.20q: %d events, %d, error %d, and not %d, %d, error %d", len(data), stream, expected, mark, len(k), has, got, len(want), n, why)
	}
	if !slices.Equal(l, before) || !slices.Equal(data, texts) {
		t.Error("Append has changed what it was handed")
	}
}

// Promises 12.1 and 12.2, by the chapter's example.
func TestExample(t *testing.T) {
	l := []api.Event{event("a", 1, 1, "m", "x"), event("a", 2, 2, "", "y")}
	appends(t, nil, "a", 0, "m", []string{"x", "y"}, l, 2, api.OK)
	appends(t, l, "a", 0, "m", []string{"z"}, l, 2, api.OK)
	appends(t, l, "a", 0, "", []string{"z"}, nil, 0, api.ErrConflict)
	appends(t, l, "a", -1, "", []string{"z"}, append(l, event("a", 3, 3, "", "z")), 3, api.OK)
}

// notRight are lists of events that are not right, each in one of the ways that the chapter names.
func notRight() map[string][]api.Event {
	long := strings.Repeat("t", api.MaxText+1)
	l := map[string][]api.Event{
		"one too many":                  many(api.MaxEvents + 1),
		"far too many":                  many(2 * api.MaxEvents),
		"no stream":                     {event("", 1, 1, "", "x")},
		"a stream too long":             {event(long, 1, 1, "", "x")},
		"a mark too long":               {event("a", 1, 1, long, "x")},
		"data too long":                 {event("a", 1, 1, "", long)},
		"all too long":                  {event(long, 1, 1, long, long)},
		"Global from 0":                 {event("a", 1, 0, "", "x")},
		"Global from 2":                 {event("a", 1, 2, "", "x")},
		"Global below 0":                {event("a", 1, -1, "", "x")},
		"Global of the least number":    {event("a", 1, math.MinInt, "", "x")},
		"Global twice":                  {event("a", 1, 1, "", "x"), event("a", 2, 1, "", "y")},
		"Global with a gap":             {event("a", 1, 1, "", "x"), event("a", 2, 3, "", "y")},
		"Global falling":                {event("a", 1, 2, "", "x"), event("a", 2, 1, "", "y")},
		"Num from 0":                    {event("a", 0, 1, "", "x")},
		"Num from 2":                    {event("a", 2, 1, "", "x")},
		"Num below 0":                   {event("a", -1, 1, "", "x")},
		"Num of the greatest number":    {event("a", math.MaxInt, 1, "", "x")},
		"Num twice":                     {event("a", 1, 1, "", "x"), event("a", 1, 2, "", "y")},
		"Num with a gap":                {event("a", 1, 1, "", "x"), event("a", 3, 2, "", "y")},
		"Num falling":                   {event("a", 2, 1, "", "x"), event("a", 1, 2, "", "y")},
		"Num of another stream":         {event("a", 1, 1, "", "x"), event("b", 2, 2, "", "y")},
		"Num of another stream, twice":  {event("a", 1, 1, "", "x"), event("b", 1, 2, "", "y"), event("a", 3, 3, "", "z")},
		"a mark twice":                  {event("a", 1, 1, "m", "x"), event("a", 2, 2, "m", "x")},
		"a mark twice, far apart":       {event("a", 1, 1, "m", "x"), event("a", 2, 2, "", "y"), event("b", 1, 3, "m", ""), event("a", 3, 4, "m", "z")},
		"a mark twice, in the last one": append(three(), event("b", 2, 4, "m", "")),
	}
	for _, place := range []int{0, 1, 2} {
		for i, spoil := range []func(*api.Event){
			func(e *api.Event) { e.Stream = "" },
			func(e *api.Event) { e.Stream = long },
			func(e *api.Event) { e.Stream = "c" + e.Stream; e.Num = 2 },
			func(e *api.Event) { e.Mark = long },
			func(e *api.Event) { e.Data = long },
			func(e *api.Event) { e.Num++ },
			func(e *api.Event) { e.Num-- },
			func(e *api.Event) { e.Global++ },
			func(e *api.Event) { e.Global-- },
			func(e *api.Event) { *e = api.Event{} },
		} {
			k := three()
			spoil(&k[place])
			l[fmt.Sprint("spoilt at ", place, " by ", i)] = k
		}
	}
	return l
}

// right are lists that are right.
func right() map[string][]api.Event {
	long := strings.Repeat("t", api.MaxText)
	return map[string][]api.Event{
		"nil":                       nil,
		"nothing":                   {},
		"one":                       {event("a", 1, 1, "", "")},
		"three":                     three(),
		"a mark in two streams":     {event("a", 1, 1, "m", "x"), event("b", 1, 2, "m", "x"), event("a", 2, 3, "n", "x"), event("b", 2, 4, "n", "x")},
		"no mark twice":             {event("a", 1, 1, "", "x"), event("a", 2, 2, "", "x"), event("a", 3, 3, "", "x")},
		"the longest":               {event(long, 1, 1, long, long), event(long, 2, 2, long[1:], long)},
		"bytes of all kinds":        {event("\x00", 1, 1, "\xff", "\x00"), event("\xff\xfe", 1, 2, "\x00", ""), event("\x00\x00", 1, 3, "", "")},
		"streams and marks as one":  {event("ab", 1, 1, "c", ""), event("a", 1, 2, "bc", "")},
		"marks that are as streams": {event("a", 1, 1, "a", "a"), event("b", 1, 2, "a", "a"), event("a", 2, 3, "b", "")},
		"as many as may be":         many(api.MaxEvents),
	}
}

// Promises 12.1 and P1: lists that are right, and such that are not, in each way that the chapter names.
func TestCheck(t *testing.T) {
	for name, l := range notRight() {
		if why := events.Check(l); why != api.ErrRange {
			t.Error(name, ": error", why)
		}
	}
	for name, l := range right() {
		if why := events.Check(l); why != api.OK {
			t.Error(name, ": error", why)
		}
	}
}

// Promises 12.1 and P2: each other call answers what Check answers, ahead of all else.
func TestEachCallChecks(t *testing.T) {
	long := strings.Repeat("t", api.MaxText+1)
	for name, l := range notRight() {
		for _, stream := range []string{"a", "s", "", long} {
			for _, mark := range []string{"", "m", long} {
				for _, n := range []int{-1, 0, 1, 7} {
					appends(t, l, stream, n, mark, []string{"x", long}, nil, 0, api.ErrRange)
					appends(t, l, stream, n, mark, nil, nil, 0, api.ErrRange)
				}
				if n, why := events.Marked(l, stream, mark); n != 0 || why != api.ErrRange {
					t.Error(name, ": Marked:", n, why)
				}
			}
			if k, why := events.Read(l, stream, 1, 9); len(k) != 0 || why != api.ErrRange {
				t.Error(name, ": Read:", len(k), why)
			}
		}
		if k, why := events.All(l, 1, 9); len(k) != 0 || why != api.ErrRange {
			t.Error(name, ": All:", len(k), why)
		}
		if k, why := events.Streams(l); len(k) != 0 || why != api.ErrRange {
			t.Error(name, ": Streams:", len(k), why)
		}
	}
}

// Promise 12.2: texts of MaxText bytes go, one byte more is ErrLong, ahead of marks, of what is expected and of how many there are.
func TestAppendOfLongTexts(t *testing.T) {
	long := strings.Repeat("t", api.MaxText)
	full := many(api.MaxEvents)
	for _, l := range [][]api.Event{nil, three(), full} {
		for _, expected := range []int{-1, 0, 99} {
			for _, mark := range []string{"", "m"} {
				appends(t, l, "", expected, mark, []string{"x"}, nil, 0, api.ErrLong)
				appends(t, l, "", expected, mark, nil, nil, 0, api.ErrLong)
				appends(t, l, long+"t", expected, mark, []string{"x"}, nil, 0, api.ErrLong)
				appends(t, l, "a", expected, mark, []string{long + "t"}, nil, 0, api.ErrLong)
				appends(t, l, "a", expected, mark, []string{"x", long, long + "t"}, nil, 0, api.ErrLong)
				appends(t, l, "a", expected, mark, []string{long + "t", "x"}, nil, 0, api.ErrLong)
			}
			appends(t, l, "a", expected, long+"t", []string{"x"}, nil, 0, api.ErrLong)
			appends(t, l, "a", expected, long+"t", nil, nil, 0, api.ErrLong)
		}
	}
	want := []api.Event{event(long, 1, 1, long, long), event(long, 2, 2, "", ""), event(long, 3, 3, "", long)}
	appends(t, nil, long, 0, long, []string{long, "", long}, want, 3, api.OK)
	appends(t, want, long, 0, long, []string{long}, want, 3, api.OK)
}

// Promises 12.2 and 12.6: marks that are there already, in this stream and in another one, with data and with none.
func TestAppendWithAMark(t *testing.T) {
	l := append(three(), event("b", 2, 4, "n", "w"))
	var lots []string
	for range api.MaxEvents {
		lots = append(lots, "d")
	}
	for _, expected := range []int{-1, 0, 1, 2, 3, math.MaxInt, math.MinInt} {
		for _, data := range [][]string{nil, {}, {"x"}, {"p", "q"}, lots} {
			appends(t, l, "a", expected, "m", data, l, 2, api.OK) // the first one of the stream has it
			appends(t, l, "b", expected, "m", data, l, 2, api.OK)
			appends(t, l, "b", expected, "n", data, l, 2, api.OK) // another one has it
		}
	}
	// What only another stream has is new here; so is what is there as a stream or as data.
	appends(t, l, "a", 2, "n", []string{"p", "q"}, append(slices.Clone(l), event("a", 3, 5, "n", "p"), event("a", 4, 6, "", "q")), 4, api.OK)
	appends(t, l, "a", 0, "n", []string{"p"}, nil, 0, api.ErrConflict)
	appends(t, l, "c", 0, "m", []string{"p"}, append(slices.Clone(l), event("c", 1, 5, "m", "p")), 1, api.OK)
	appends(t, l, "a", -1, "a", []string{"p"}, append(slices.Clone(l), event("a", 3, 5, "a", "p")), 3, api.OK)
	appends(t, l, "a", -1, "z", []string{"p"}, append(slices.Clone(l), event("a", 3, 5, "z", "p")), 3, api.OK)
	// With no data nothing is kept: the mark is new the next time as well.
	appends(t, l, "a", 2, "new", nil, l, 2, api.OK)
	appends(t, l, "a", 1, "new", nil, nil, 0, api.ErrConflict)
	appends(t, l, "c", 0, "new", []string{}, l, 0, api.OK)
	appends(t, nil, "c", 0, "new", nil, nil, 0, api.OK)
	// No mark is never there already.
	appends(t, l, "a", -1, "", []string{"p", "q"}, append(slices.Clone(l), event("a", 3, 5, "", "p"), event("a", 4, 6, "", "q")), 4, api.OK)
}

// Promises 12.2 and 12.8: expected numbers below 0, right and wrong; of two that expect the same the second one is ErrConflict.
func TestAppendWithExpected(t *testing.T) {
	streams := map[string]int{"a": 2, "b": 1, "c": 0}
	for stream, has := range streams {
		next := append(three(), event(stream, has+1, 4, "q", "new"))
		for _, expected := range []int{math.MinInt, -2, -1, has} {
			appends(t, three(), stream, expected, "q", []string{"new"}, next, has+1, api.OK)
			appends(t, three(), stream, expected, "", nil, three(), has, api.OK)
		}
		for _, expected := range []int{0, 1, 2, 3, math.MaxInt} {
			if expected != has {
				appends(t, three(), stream, expected, "q", []string{"new"}, nil, 0, api.ErrConflict)
				appends(t, three(), stream, expected, "", nil, nil, 0, api.ErrConflict)
			}
		}
		appends(t, next, stream, has, "", []string{"other"}, nil, 0, api.ErrConflict)
		appends(t, next, stream, has, "r", []string{"other", "more"}, nil, 0, api.ErrConflict)
	}
}

// Promise 12.2: up to MaxEvents events, and not one more; ErrConflict is ahead of that.
func TestAppendUpToAsManyAsMayBe(t *testing.T) {
	texts := func(n int) []string { return slices.Repeat([]string{"d"}, n) }
	appends(t, nil, "s", 0, "", texts(api.MaxEvents), many(api.MaxEvents), api.MaxEvents, api.OK)
	appends(t, nil, "s", 0, "", texts(api.MaxEvents+1), nil, 0, api.ErrMany)
	appends(t, nil, "s", 1, "", texts(api.MaxEvents+1), nil, 0, api.ErrConflict)
	almost := many(api.MaxEvents - 2)
	appends(t, almost, "s", -1, "", texts(2), many(api.MaxEvents), api.MaxEvents, api.OK)
	appends(t, almost, "s", api.MaxEvents-2, "", texts(3), nil, 0, api.ErrMany)
	appends(t, almost, "other", 0, "q", texts(3), nil, 0, api.ErrMany)
	appends(t, almost, "other", 1, "q", texts(3), nil, 0, api.ErrConflict)
	full := many(api.MaxEvents)
	full[7].Mark = "m"
	appends(t, full, "s", -1, "", nil, full, api.MaxEvents, api.OK)
	appends(t, full, "s", -1, "", texts(1), nil, 0, api.ErrMany)
	appends(t, full, "s", -1, "m", texts(1), full, api.MaxEvents, api.OK)
	appends(t, full, "s", 0, "", texts(1), nil, 0, api.ErrConflict)
	appends(t, full, "other", 0, "m", texts(1), nil, 0, api.ErrMany)
	appends(t, full, "other", 0, "m", nil, full, 0, api.OK)
}

package kv_test

import (
	"fmt"
	"reflect"
	"slices"
	"strings"
	"testing"

	"lading/api"
	"lading/kv"
	"lading/txn"
)

// plain has empty lists be nil.
func plain(a api.TxAnswer) api.TxAnswer {
	if len(a.Pairs) == 0 {
		a.Pairs = nil
	}
	if len(a.Done) == 0 {
		a.Done = nil
	}
	return a
}

func answers(t *testing.T, s *kv.Store, x api.TxStep, want api.TxAnswer) {
	t.Helper()
	if a := s.Do(x); !reflect.DeepEqual(plain(a), plain(want)) {
		t.Errorf("%+v: %+v, and not %+v", x, a, want)
	}
}

// asked is what the call of a step's kind answers.
func asked(s *kv.Store, x api.TxStep) api.TxAnswer {
	var a api.TxAnswer
	switch x.Kind {
	case api.TxBegin:
		a.Tx, a.Why = s.Begin()
	case api.TxGet:
		a.Val, a.Is, a.Why = s.Get(x.Tx, x.Key)
	case api.TxScan:
		a.Pairs, a.Why = s.Scan(x.Tx, x.Key, x.To)
	case api.TxPut:
		a.Why = s.Put(x.Tx, x.Key, x.Val)
	case api.TxDelete:
		a.Why = s.Delete(x.Tx, x.Key)
	case api.TxCommit:
		a.Why = s.Commit(x.Tx)
	case api.TxAbort:
		a.Why = s.Abort(x.Tx)
	default:
		a.Why = api.ErrType
	}
	return a
}

// Promises 11.2 and 11.4: each call, and Do of it, answers what txn's calls answer, at the edges that txn names.
func TestStepsAreThoseOfTransactions(t *testing.T) {
	long := strings.Repeat("k", api.MaxKey+1)
	steps := []api.TxStep{
		{Kind: api.TxGet, Tx: 1, Key: "a"},
		{Kind: api.TxGet, Tx: 0, Key: "a"},
		{Kind: api.TxBegin, Tx: 77},
		{Kind: api.TxGet, Tx: 1, Key: "a"},
		{Kind: api.TxGet, Tx: 1, Key: "x", To: "y", Val: "z"},
		{Kind: api.TxGet, Tx: 1, Key: long[1:]},
		{Kind: api.TxGet, Tx: 1, Key: long},
		{Kind: api.TxGet, Tx: 2, Key: long},
		{Kind: api.TxScan, Tx: 1},
		{Kind: api.TxScan, Tx: 1, Key: "a", To: "c"},
		{Kind: api.TxScan, Tx: 1, Key: "c", To: "a"},
		{Kind: api.TxScan, Tx: 1, Key: long, To: long + long},
		{Kind: api.TxScan, Tx: -1, Key: "a"},
		{Kind: api.TxPut, Tx: 1, Key: "a", Val: "new"},
		{Kind: api.TxPut, Tx: 1, Key: long[1:], Val: strings.Repeat("v", api.MaxValue)},
		{Kind: api.TxPut, Tx: 1, Key: long, Val: "new"},
		{Kind: api.TxPut, Tx: 1, Key: "b", Val: strings.Repeat("v", api.MaxValue+1)},
		{Kind: api.TxPut, Tx: 9, Key: long, Val: "new"},
		{Kind: api.TxDelete, Tx: 1, Key: "b"},
		{Kind: api.TxDelete, Tx: 1, Key: long},
		{Kind: api.TxDelete, Tx: 9, Key: "b"},
		{Kind: api.TxScan, Tx: 1},
		{Kind: api.TxBegin},
		{Kind: api.TxScan, Tx: 2},
		{Kind: api.TxAbort, Tx: 1},
		{Kind: api.TxAbort, Tx: 1},
		{Kind: api.TxScan, Tx: 2},
		{Kind: api.TxNone, Tx: 2},
		{Kind: api.TxCount, Tx: 2},
		{Kind: 255, Tx: 2},
	}
	for range api.MaxOpen + 1 {
		steps = append(steps, api.TxStep{Kind: api.TxBegin})
	}
	for i := range api.MaxReads + 3 {
		steps = append(steps,
			api.TxStep{Kind: api.TxPut, Tx: 3, Key: fmt.Sprint(i), Val: "v"},
			api.TxStep{Kind: api.TxDelete, Tx: 4, Key: fmt.Sprint(i)},
			api.TxStep{Kind: api.TxGet, Tx: 3, Key: fmt.Sprint(i)},
			api.TxStep{Kind: api.TxScan, Tx: 4, Key: fmt.Sprint(i)})
	}
	m, why := txn.New(pairs("a", "1", "b", "2"))
	must(t, why)
	_, one := formatted(t, 80, 4)
	must(t, commit(t, one, put("a", "1"), put("b", "2")))
	one = reopened(t, one, "a", "1", "b", "2")
	two := reopened(t, one, "a", "1", "b", "2")
	for _, x := range steps {
		want := m.Do(x)
		answers(t, one, x, want)
		if a := asked(two, x); !reflect.DeepEqual(plain(a), plain(want)) {
			t.Errorf("the call of %+v: %+v, and not %+v", x, a, want)
		}
	}
}

// reopened is a store with the same entries as s should have, on a disk of its own, none of whose transactions was begun.
func reopened(t *testing.T, s *kv.Store, words ...string) *kv.Store {
	t.Helper()
	has(t, s, pairs(words...))
	d, other := formatted(t, 80, 4)
	for _, p := range pairs(words...) {
		must(t, commit(t, other, put(p.Key, p.Val)))
	}
	return opened(t, d)
}

// Promise 11.4: of a commit Do tells Why alone; a step that is of no kind is ErrType, and nothing is done.
func TestDo(t *testing.T) {
	d, s := formatted(t, 80, 4)
	answers(t, s, api.TxStep{Kind: api.TxBegin}, api.TxAnswer{Tx: 1})
	answers(t, s, api.TxStep{Kind: api.TxBegin}, api.TxAnswer{Tx: 2})
	answers(t, s, api.TxStep{Kind: api.TxPut, Tx: 1, Key: "a", Val: "1"}, api.TxAnswer{})
	answers(t, s, api.TxStep{Kind: api.TxGet, Tx: 2, Key: "a"}, api.TxAnswer{})
	answers(t, s, api.TxStep{Kind: api.TxPut, Tx: 2, Key: "a", Val: "2"}, api.TxAnswer{})
	for _, kind := range []api.TxKind{api.TxNone, api.TxCount, api.TxCount + 1, 255} {
		for _, tx := range []int{0, 1, 2, 3} {
			answers(t, s, api.TxStep{Kind: kind, Tx: tx, Key: "a", Val: "x"}, api.TxAnswer{Why: api.ErrType})
		}
	}
	answers(t, s, api.TxStep{Kind: api.TxCommit, Tx: 1, Key: "x", Val: "y"}, api.TxAnswer{})
	answers(t, s, api.TxStep{Kind: api.TxCommit, Tx: 1}, api.TxAnswer{Why: api.ErrUnknown})
	answers(t, s, api.TxStep{Kind: api.TxCommit, Tx: 2}, api.TxAnswer{Why: api.ErrConflict})
	answers(t, s, api.TxStep{Kind: api.TxBegin}, api.TxAnswer{Tx: 3})
	answers(t, s, api.TxStep{Kind: api.TxScan, Tx: 3}, api.TxAnswer{Pairs: pairs("a", "1")})
	answers(t, s, api.TxStep{Kind: api.TxDelete, Tx: 3, Key: "a"}, api.TxAnswer{})
	answers(t, s, api.TxStep{Kind: api.TxAbort, Tx: 3}, api.TxAnswer{})
	lasts(t, d, s, pairs("a", "1"))
}

// Promises 11.5 and P1: of a nil store all calls answer ErrNil and zero values.
func TestNilStore(t *testing.T) {
	var s *kv.Store
	for _, x := range append(everyStep(1), api.TxStep{}, api.TxStep{Kind: api.TxCount}, api.TxStep{Kind: 255}) {
		answers(t, s, x, api.TxAnswer{Why: api.ErrNil})
	}
	for _, x := range everyStep(1) {
		if a := asked(s, x); !reflect.DeepEqual(plain(a), api.TxAnswer{Why: api.ErrNil}) {
			t.Errorf("%+v of a nil store: %+v", x, a)
		}
	}
	if why := s.Checkpoint(); why != api.ErrNil {
		t.Error("Checkpoint: error", why)
	}
	if len(s.Pairs()) != 0 || s.Live() != 0 || s.Cap() != 0 || s.Room() != 0 {
		t.Error("a nil store has", s.Pairs(), s.Live(), s.Cap(), s.Room())
	}
}

// Promise 11.5: what is answered may be changed, and what was answered stays as it is.
func TestNewMemory(t *testing.T) {
	d, s := formatted(t, 80, 4)
	must(t, commit(t, s, put("a", "1"), put("b", "2"), put("c", "3")))
	want := pairs("a", "1", "b", "2", "c", "3")
	for range 2 {
		tx := begun(t, s)
		must(t, s.Put(tx, "c", "4"))
		first, second := s.Pairs(), s.Pairs()
		scanned, why := s.Scan(tx, "", "")
		must(t, why)
		for i := range first {
			first[i], scanned[i] = api.Pair{Key: "x"}, api.Pair{Key: "y"}
		}
		if l, _ := s.Scan(tx, "", ""); !slices.Equal(l, pairs("a", "1", "b", "2", "c", "4")) {
			t.Error("Scan shares memory:", l)
		}
		if !slices.Equal(second, want) {
			t.Error("two answers share memory:", second)
		}
		must(t, s.Abort(tx))
		lasts(t, d, s, want)
		must(t, s.Checkpoint())
		must(t, commit(t, s, put("b", "2"), put("c", "3")))
	}
	before := s.Pairs()
	must(t, commit(t, s, put("a", "9"), drop("b")))
	if !slices.Equal(before, want) {
		t.Error("an earlier answer has changed:", before)
	}
}

// Promise P4: stores on two disks have nothing to do with one another.
func TestTwoStores(t *testing.T) {
	d, s := formatted(t, 80, 4)
	must(t, commit(t, s, put("a", "1")))
	fork := d.Fork()
	other := opened(t, fork)
	tx := begun(t, s)
	must(t, commit(t, other, put("a", "2"), put("b", "3")))
	if v, is, why := s.Get(tx, "a"); v != "1" || !is || why != api.OK {
		t.Error("Get:", v, is, why)
	}
	must(t, fork.Cut())
	if why := other.Checkpoint(); why != api.ErrDown {
		t.Error("Checkpoint without power: error", why)
	}
	must(t, s.Put(tx, "c", "4"))
	must(t, s.Commit(tx))
	lasts(t, d, s, pairs("a", "1", "c", "4"))
	must(t, fork.Restore(nil))
	has(t, opened(t, fork), pairs("a", "2", "b", "3"))
}

// Promise 11.2: without power, but not within a Commit or a Checkpoint, transactions go on; and with power again all goes on.
func TestPowerCutBetweenCalls(t *testing.T) {
	d, s := formatted(t, 80, 4)
	must(t, commit(t, s, put("a", "1")))
	tx := writing(t, s, put("b", "2"))
	must(t, d.Cut())
	if v, is, why := s.Get(tx, "a"); v != "1" || !is || why != api.OK {
		t.Error("Get without power:", v, is, why)
	}
	must(t, s.Put(tx, "c", "3"))
	must(t, s.Delete(tx, "a"))
	must(t, s.Abort(begun(t, s)))
	has(t, s, pairs("a", "1"))
	if s.Cap() != 14 || s.Room() != 3 {
		t.Error("Cap, Room without power:", s.Cap(), s.Room())
	}
	must(t, d.Restore(nil))
	must(t, s.Commit(tx))
	lasts(t, d, s, pairs("b", "2", "c", "3"))
	must(t, d.Cut())
	must(t, d.Restore([]api.Fate{{Kind: api.FateTear, Mask: 3}}))
	lasts(t, d, s, pairs("b", "2", "c", "3"))
	must(t, s.Checkpoint())
	lasts(t, d, s, pairs("b", "2", "c", "3"))
}

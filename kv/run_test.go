package kv_test

import (
	"fmt"
	"maps"
	"math/rand/v2"
	"reflect"
	"slices"
	"strings"
	"testing"

	"lading/api"
	"lading/disk"
	"lading/kv"
	"lading/txn"
)

// session is a transaction that is under way: its steps, with what was answered.
type session struct {
	steps   []api.TxStep
	answers []api.TxAnswer
}

// run does random steps by a store, beside a manager of transactions and a plain map of what there is.
type run struct {
	r        *rand.Rand
	d        *disk.Disk
	s        *kv.Store
	m        *txn.Manager
	journal  int
	cuts     bool              // whether the power goes now and then
	great    bool              // whether values are long, and commits seldom
	first    map[string]string // what there was when the store was opened
	there    map[string]string
	under    map[int]*session // by their numbers
	all      []session        // those that committed since the store was opened, in the order of their commits
	count    map[api.Errno]int
	cutShort int // how often the power went
	several  int // commits of several sectors
}

func newRun(t *testing.T, seed uint64, sectors, journal int) *run {
	t.Helper()
	x := &run{r: rand.New(rand.NewPCG(11, seed)), journal: journal, there: map[string]string{}, count: map[api.Errno]int{}}
	x.d, x.s = formatted(t, sectors, journal)
	x.begin(t)
	return x
}

// begin has the models begin with what there is, as a store that is opened does.
func (x *run) begin(t *testing.T) {
	t.Helper()
	m, why := txn.New(pairsOf(x.there))
	must(t, why)
	x.m, x.first, x.under, x.all = m, maps.Clone(x.there), map[int]*session{}, nil
}

// key is one of a few more than there is room for, so that commits are refused now and then.
func (x *run) key() string {
	keys := []string{"", "a", "a\x00", "b", "bb", "c", "d", "e", "f", "\xff", strings.Repeat("k", api.MaxKey)}
	i := x.r.IntN(x.s.Cap() + 3)
	if i < len(keys) {
		return keys[i]
	}
	return fmt.Sprint(i)
}

func (x *run) val() string {
	if x.great {
		return strings.Repeat(small('a'+x.r.IntN(26)), api.MaxValue-x.r.IntN(100))
	}
	if x.r.IntN(3) == 0 {
		return strings.Repeat(small('a'+x.r.IntN(26)), x.r.IntN(api.MaxValue+1))
	}
	return fmt.Sprint(x.r.IntN(5))
}

func (x *run) step() api.TxStep {
	kinds := []api.TxKind{api.TxBegin, api.TxGet, api.TxScan, api.TxPut, api.TxDelete, api.TxCommit, api.TxAbort}
	if x.great {
		kinds = append(kinds[1:], slices.Repeat([]api.TxKind{api.TxPut, api.TxPut, api.TxPut, api.TxDelete}, 9)...)
	}
	s := api.TxStep{Kind: kinds[x.r.IntN(len(kinds))], Key: x.key(), To: x.key(), Val: x.val()}
	if s.Kind == api.TxAbort && x.r.IntN(4) > 0 {
		s.Kind = api.TxCommit
	}
	if x.r.IntN(3) > 0 {
		s.To = s.Key + "\x01"
	}
	open := x.m.Open()
	if len(open) == 0 {
		s.Kind = api.TxBegin
	} else {
		s.Tx = open[x.r.IntN(len(open))]
	}
	if x.r.IntN(40) == 0 {
		s.Tx = x.r.IntN(20) - 1
	}
	return s
}

// do does a step that is no commit, by the store and by the manager.
func (x *run) do(t *testing.T, s api.TxStep) {
	t.Helper()
	a, want := x.s.Do(s), x.m.Do(s)
	if !reflect.DeepEqual(plain(a), plain(want)) {
		t.Fatalf("%+v: %+v, and not %+v", s, a, want)
	}
	x.count[a.Why]++
	if s.Kind == api.TxBegin {
		if a.Why == api.OK {
			x.under[a.Tx] = &session{}
		}
		return
	}
	if y := x.under[s.Tx]; y != nil {
		y.steps, y.answers = append(y.steps, s), append(y.answers, a)
	}
	if s.Kind == api.TxAbort {
		delete(x.under, s.Tx)
	}
}

// batchSectors is how many the batch of writes has.
func batchSectors(l []api.Write) int {
	return (batchSize(l...) + api.Payload - 1) / api.Payload
}

// wanted is what a commit is to answer, if there is power, and what it is to write.
func (x *run) wanted(tx int) ([]api.Write, api.Errno) {
	l, conflicts, why := x.m.Peek(tx)
	switch {
	case why != api.OK:
		return nil, why
	case conflicts:
		return nil, api.ErrConflict
	case len(l) == 0:
		return nil, api.OK
	case len(x.m.Versions().List)+len(l) > api.MaxList:
		return nil, api.ErrMany
	case len(done(x.there, l...)) > x.s.Cap() || batchSectors(l) > x.journal:
		return nil, api.ErrFull
	}
	return l, api.OK
}

// arm has the power go soon, now and then.
func (x *run) arm(t *testing.T) {
	t.Helper()
	if x.cuts && x.r.IntN(3) == 0 {
		must(t, x.d.Arm(x.r.IntN(1+x.r.IntN(12))))
	}
}

// commit commits by the store and by the models.
func (x *run) commit(t *testing.T, tx int) {
	t.Helper()
	l, want := x.wanted(tx)
	if len(l) > 0 && batchSectors(l) > 1 {
		x.several++
	}
	writes, room := x.d.Writes(), x.s.Room()
	x.arm(t)
	why := x.s.Commit(tx)
	x.count[why]++
	if why == api.ErrDown && len(l) > 0 {
		x.cut(t, tx, l)
		return
	}
	must(t, x.d.Arm(-1))
	if why != want {
		t.Fatalf("Commit of %d: error %d, and not %d", tx, why, want)
	}
	if len(l) > 0 {
		_, _, why := x.m.Commit(tx)
		must(t, why)
		x.there = done(x.there, l...)
	} else {
		x.m.Abort(tx)
		if x.d.Writes() != writes || x.s.Room() != room {
			t.Fatal("a commit of nothing, or one that was refused, has written")
		}
	}
	if y := x.under[tx]; y != nil && why == api.OK {
		x.all = append(x.all, *y)
	}
	delete(x.under, tx)
}

func (x *run) checkpoint(t *testing.T) {
	t.Helper()
	x.arm(t)
	why := x.s.Checkpoint()
	if why == api.ErrDown && x.d.Down() {
		x.cut(t, 1, nil)
		return
	}
	must(t, x.d.Arm(-1))
	if why != api.OK || x.s.Room() != x.journal {
		t.Fatal("Checkpoint: error", why, "Room", x.s.Room())
	}
}

// cut has the power be back behind a cut within a commit of writes (or, without any, a checkpoint), and the store opened anew.
func (x *run) cut(t *testing.T, tx int, l []api.Write) {
	t.Helper()
	isDone(t, x.s, tx, pairsOf(x.there))
	x.oneBehindTheOther(t)
	lists := someFates(x.r, len(x.d.Unsynced()))
	must(t, x.d.Restore(lists[x.r.IntN(len(lists))]))
	x.s = opened(t, x.d)
	next := done(x.there, l...)
	if got := x.s.Pairs(); slices.Equal(got, pairsOf(next)) {
		x.there = next
	} else if !slices.Equal(got, pairsOf(x.there)) {
		t.Fatalf("opened anew: %.200q, neither %.200q nor %.200q", got, pairsOf(x.there), pairsOf(next))
	}
	x.cutShort++
	if len(l) > 0 && batchSectors(l) > 1 {
		// Of a batch of several sectors where another one was cut chapter 5 says nothing: so one of one sector comes there.
		must(t, commit(t, x.s, drop("never")))
		x.s = opened(t, x.d)
	}
	x.begin(t)
}

// oneBehindTheOther does all transactions that committed, in the order of their commits, with a plain map, and holds every answer against what was answered.
func (x *run) oneBehindTheOther(t *testing.T) {
	t.Helper()
	state := maps.Clone(x.first)
	for _, y := range x.all {
		for i, s := range y.steps {
			if y.answers[i].Why != api.OK {
				continue
			}
			a := api.TxAnswer{}
			switch s.Kind {
			case api.TxPut:
				state[s.Key] = s.Val
			case api.TxDelete:
				delete(state, s.Key)
			case api.TxGet:
				a.Val, a.Is = state[s.Key]
			case api.TxScan:
				for _, p := range pairsOf(state) {
					if p.Key >= s.Key && (s.To == "" || p.Key < s.To) {
						a.Pairs = append(a.Pairs, p)
					}
				}
			}
			if !reflect.DeepEqual(plain(y.answers[i]), plain(a)) {
				t.Fatalf("%+v: %+v, and one behind the other %+v", s, y.answers[i], a)
			}
		}
	}
	if !maps.Equal(state, x.there) {
		t.Fatal("one behind the other there is something else")
	}
}

// Promises 11.2 to 11.4, 11.6 to 11.8, P6 and P10: over long runs every answer is that of txn's calls, and at every step a store that is opened anew has the plain entries that there should be; those that committed are as if done one behind the other.
func TestLongRuns(t *testing.T) {
	count := map[api.Errno]int{}
	cut, several := 0, 0
	for seed := range uint64(60) {
		shapes := []struct{ sectors, journal int }{{80, 4}, {36, 1}, {70, 2}, {120, 7}, {110, 40}}
		shape := shapes[seed%uint64(len(shapes))]
		x := newRun(t, seed, shape.sectors, shape.journal)
		x.cuts, x.great = seed%2 == 1, seed%3 == 1
		for range 400 {
			switch s := x.step(); {
			case s.Kind == api.TxCommit:
				x.commit(t, s.Tx)
			case x.r.IntN(60) == 0:
				x.checkpoint(t)
			default:
				x.do(t, s)
			}
			lasts(t, x.d, x.s, pairsOf(x.there))
		}
		x.oneBehindTheOther(t)
		for why, n := range x.count {
			count[why] += n
		}
		cut, several = cut+x.cutShort, several+x.several
	}
	for _, why := range []api.Errno{api.OK, api.ErrConflict, api.ErrUnknown, api.ErrFull, api.ErrDown} {
		if count[why] < 30 {
			t.Error("the runs have too few answers of", why, ":", count[why])
		}
	}
	if cut < 30 || several < 30 {
		t.Error("too few power cuts:", cut, "or commits of several sectors:", several)
	}
}

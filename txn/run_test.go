package txn_test

import (
	"fmt"
	"maps"
	"math/rand/v2"
	"reflect"
	"slices"
	"strings"
	"testing"

	"lading/api"
	"lading/txn"
)

// model is a manager as the document words it: what there was as of each time is kept whole, and every version that ever was.
type model struct {
	states []map[string]string // by the time; of 0 there is nothing
	ever   []api.Version       // as they were written
	last   int
	open   map[int]*modelTx
}

type modelTx struct {
	began int
	own   map[string]api.Write
	got   []string
	spans [][2]string
}

func newModel(l []api.Pair) *model {
	first := map[string]string{}
	m := &model{states: []map[string]string{nil, first}, open: map[int]*modelTx{}}
	for _, p := range l {
		first[p.Key] = p.Val
		m.ever = append(m.ever, is(p.Key, 1, p.Val))
	}
	return m
}

func (m *model) now() int { return len(m.states) - 1 }

func inSpan(key, from, to string) bool { return key >= from && (to == "" || key < to) }

// seen is all that a transaction sees.
func (m *model) seen(x *modelTx) map[string]string {
	l := maps.Clone(m.states[x.began])
	for k, w := range x.own {
		if w.Gone {
			delete(l, k)
		} else {
			l[k] = w.Val
		}
	}
	return l
}

func (m *model) conflicts(x *modelTx) bool {
	for _, v := range m.ever {
		if v.At <= uint64(x.began) {
			continue
		}
		if slices.Contains(x.got, v.Key) {
			return true
		}
		for _, s := range x.spans {
			if inSpan(v.Key, s[0], s[1]) {
				return true
			}
		}
	}
	return false
}

func writesOf(x *modelTx) []api.Write {
	var l []api.Write
	for _, k := range slices.Sorted(maps.Keys(x.own)) {
		l = append(l, x.own[k])
	}
	return l
}

// low is up to where versions are swept.
func (m *model) low() uint64 {
	low := m.now()
	for _, x := range m.open {
		low = min(low, x.began)
	}
	return uint64(low)
}

// swept are the versions without what the document says of a sweep.
func swept(all []api.Version, low uint64) []api.Version {
	var l []api.Version
	for _, x := range all {
		hidden := slices.ContainsFunc(all, func(y api.Version) bool { return y.Key == x.Key && y.At > x.At && y.At <= low })
		if !hidden && !(x.Gone && x.At <= low) {
			l = append(l, x)
		}
	}
	slices.SortFunc(l, func(a, b api.Version) int {
		if a.Key != b.Key {
			return strings.Compare(a.Key, b.Key)
		}
		return int(a.At) - int(b.At)
	})
	return l
}

func (m *model) begin() api.TxAnswer {
	if len(m.open) == api.MaxOpen {
		return api.TxAnswer{Why: api.ErrMany}
	}
	m.last++
	m.open[m.last] = &modelTx{began: m.now(), own: map[string]api.Write{}}
	return api.TxAnswer{Tx: m.last}
}

func (m *model) commit(tx int) api.TxAnswer {
	x := m.open[tx]
	delete(m.open, tx)
	if m.conflicts(x) {
		return api.TxAnswer{Why: api.ErrConflict}
	}
	l := writesOf(x)
	if len(l) == 0 {
		return api.TxAnswer{Time: uint64(m.now())}
	}
	state := maps.Clone(m.states[m.now()])
	at := uint64(m.now() + 1)
	for _, w := range l {
		if w.Gone {
			delete(state, w.Key)
		} else {
			state[w.Key] = w.Val
		}
		m.ever = append(m.ever, api.Version{Key: w.Key, At: at, Val: w.Val, Gone: w.Gone})
	}
	m.states = append(m.states, state)
	return api.TxAnswer{Done: l, Time: at}
}

func (m *model) do(s api.TxStep) api.TxAnswer {
	if s.Kind == api.TxNone || s.Kind >= api.TxCount {
		return api.TxAnswer{Why: api.ErrType}
	}
	if s.Kind == api.TxBegin {
		return m.begin()
	}
	x := m.open[s.Tx]
	if x == nil {
		return api.TxAnswer{Why: api.ErrUnknown}
	}
	var a api.TxAnswer
	_, own := x.own[s.Key]
	long := len(s.Key) > api.MaxKey
	tooMany := len(x.got)+len(x.spans) >= api.MaxReads
	switch s.Kind {
	case api.TxCommit:
		return m.commit(s.Tx)
	case api.TxAbort:
		delete(m.open, s.Tx)
	case api.TxGet:
		switch {
		case long:
			return api.TxAnswer{Why: api.ErrLong}
		case tooMany:
			return api.TxAnswer{Why: api.ErrMany}
		}
		x.got = append(x.got, s.Key)
		a.Val, a.Is = m.seen(x)[s.Key]
	case api.TxScan:
		if tooMany {
			return api.TxAnswer{Why: api.ErrMany}
		}
		x.spans = append(x.spans, [2]string{s.Key, s.To})
		l := m.seen(x)
		for _, k := range slices.Sorted(maps.Keys(l)) {
			if inSpan(k, s.Key, s.To) {
				a.Pairs = append(a.Pairs, api.Pair{Key: k, Val: l[k]})
			}
		}
	case api.TxPut, api.TxDelete:
		w := api.Write{Key: s.Key, Val: s.Val}
		if s.Kind == api.TxDelete {
			w = api.Write{Key: s.Key, Gone: true}
		}
		switch {
		case long || len(w.Val) > api.MaxValue:
			return api.TxAnswer{Why: api.ErrLong}
		case !own && len(x.own) == api.MaxReads:
			return api.TxAnswer{Why: api.ErrMany}
		}
		x.own[s.Key] = w
	}
	return a
}

// hold holds a manager against the model in all that can be asked without doing anything.
func (m *model) hold(t *testing.T, x *txn.Manager) {
	t.Helper()
	if x.Now() != uint64(m.now()) || !slices.Equal(x.Open(), slices.Sorted(maps.Keys(m.open))) {
		t.Fatal("Now, Open:", x.Now(), x.Open())
	}
	for tx, mine := range m.open {
		if l, is, why := x.Peek(tx); !slices.Equal(l, writesOf(mine)) || is != m.conflicts(mine) || why != api.OK {
			t.Fatal("Peek:", l, is, why, "and not", writesOf(mine), m.conflicts(mine))
		}
	}
}

// done is a transaction that committed: its steps, from its first to its last, with what was answered.
type done struct {
	steps   []api.TxStep
	answers []api.TxAnswer
}

// anew does transactions one behind the other with a new manager, and holds every answer against what was answered (but for the number, which is another one).
func anew(t *testing.T, first []api.Pair, all []done) {
	t.Helper()
	m, why := txn.New(first)
	must(t, why)
	for i, d := range all {
		tx := begun(t, m)
		for j, s := range d.steps {
			s.Tx = tx
			if a := m.Do(s); !reflect.DeepEqual(plain(a), plain(d.answers[j])) {
				t.Fatalf("transaction %d, step %d, %+v: %+v, and not %+v", i, j, s, a, d.answers[j])
			}
		}
	}
}

// plainly does transactions one behind the other with a plain map, which has their writes at once.
func plainly(t *testing.T, first []api.Pair, all []done) {
	t.Helper()
	state := map[string]string{}
	for _, p := range first {
		state[p.Key] = p.Val
	}
	for i, d := range all {
		for j, s := range d.steps {
			a := d.answers[j]
			if a.Why != api.OK {
				continue
			}
			switch s.Kind {
			case api.TxPut:
				state[s.Key] = s.Val
			case api.TxDelete:
				delete(state, s.Key)
			case api.TxGet:
				if val, is := state[s.Key]; val != a.Val || is != a.Is {
					t.Fatalf("transaction %d, step %d: got %q %t, and there is %q %t", i, j, a.Val, a.Is, val, is)
				}
			case api.TxScan:
				var l []api.Pair
				for _, k := range slices.Sorted(maps.Keys(state)) {
					if inSpan(k, s.Key, s.To) {
						l = append(l, api.Pair{Key: k, Val: state[k]})
					}
				}
				if !slices.Equal(l, a.Pairs) {
					t.Fatalf("transaction %d, step %d: scanned %v, and there is %v", i, j, a.Pairs, l)
				}
			}
		}
	}
}

// run does random steps by a manager and its model.
type run struct {
	r     *rand.Rand
	m     *txn.Manager
	model *model
	under map[int]*done // by their numbers
	all   []done        // those that committed, in the order of their commits
	keys  []string
	calm  int // how seldom one is ended
}

func (x *run) key() string {
	if x.r.IntN(60) == 0 {
		return strings.Repeat("k", api.MaxKey+x.r.IntN(2))
	}
	return x.keys[x.r.IntN(len(x.keys))]
}

func (x *run) step(n int) api.TxStep {
	s := api.TxStep{Kind: api.TxKind(x.r.IntN(int(api.TxCount) + 1)), Key: x.key(), To: x.key(), Val: fmt.Sprint(n)}
	if x.r.IntN(3) == 0 || s.Kind >= api.TxCommit && x.r.IntN(x.calm) > 0 {
		s.Kind = api.TxGet + api.TxKind(x.r.IntN(4))
	}
	if x.r.IntN(5) == 0 {
		s.To = ""
	}
	if x.r.IntN(80) == 0 {
		s.Val = strings.Repeat("v", api.MaxValue+x.r.IntN(2))
	}
	open := slices.Sorted(maps.Keys(x.model.open))
	if len(open) > 0 {
		s.Tx = open[x.r.IntN(len(open))]
	} else if x.r.IntN(4) > 0 {
		s.Kind = api.TxBegin
	}
	if x.r.IntN(20) == 0 {
		s.Tx = x.r.IntN(x.model.last+3) - 1
	}
	return s
}

// note keeps what was answered to a transaction that is under way.
func (x *run) note(s api.TxStep, a api.TxAnswer) {
	if s.Kind == api.TxBegin && a.Why == api.OK {
		x.under[a.Tx] = &done{}
		return
	}
	d := x.under[s.Tx]
	if d == nil || s.Kind == api.TxBegin {
		return
	}
	d.steps = append(d.steps, s)
	d.answers = append(d.answers, a)
	switch {
	case s.Kind == api.TxCommit && a.Why == api.OK:
		x.all = append(x.all, *d)
		delete(x.under, s.Tx)
	case s.Kind == api.TxCommit || s.Kind == api.TxAbort:
		delete(x.under, s.Tx)
	}
}

// Promises 10.1 to 10.5, 10.7, P10: over long runs every answer is the model's, the versions behind each end are those that the document leaves; and those that committed, done one behind the other, answer as they answered.
func TestLongRuns(t *testing.T) {
	count := map[api.Errno]int{}
	committed := 0
	for seed := range uint64(300) {
		first := pairs("", "0", "a", "1", "b", "2", "d", "3", "\xff", "4")
		m, why := txn.New(first)
		must(t, why)
		x := &run{
			r: rand.New(rand.NewPCG(10, seed)), m: m, model: newModel(first), under: map[int]*done{},
			calm: []int{1, 2, 40}[seed%3],
			keys: []string{"", "a", "a\x00", "aa", "b", "c", "d", "e", "\xff"}[:3+seed%7],
		}
		for n := range 400 {
			s := x.step(n)
			lowWas, listWas := m.Versions().Low, m.Versions().List
			openWas := len(x.model.open)
			a, want := m.Do(s), x.model.do(s)
			if !reflect.DeepEqual(plain(a), plain(want)) {
				t.Fatalf("seed %d, step %d, %+v: %+v, and not %+v", seed, n, s, a, want)
			}
			count[a.Why]++
			x.note(s, a)
			x.model.hold(t, m)
			low, list := lowWas, listWas
			if len(x.model.open) < openWas { // one is over
				low = x.model.low()
				list = swept(x.model.ever, low)
			}
			has(t, m, low, list...)
		}
		anew(t, first, x.all)
		plainly(t, first, x.all)
		committed += len(x.all)
	}
	for _, why := range []api.Errno{api.OK, api.ErrConflict, api.ErrLong, api.ErrUnknown, api.ErrType, api.ErrMany} {
		if count[why] < 50 {
			t.Error("the runs have too few answers of", why, ":", count[why])
		}
	}
	if committed < 1000 {
		t.Error("too few have committed:", committed)
	}
}

// Promise 10.9: what a transaction gets, it gets again till it writes it, whatever others do.
func TestWhatIsSeenStays(t *testing.T) {
	keys := []string{"a", "b", "c", "d"}
	for seed := range uint64(40) {
		r := rand.New(rand.NewPCG(109, seed))
		m := manager(t, "a", "1", "c", "2")
		otherCommits(t, m, put("b", "0"))
		x := begun(t, m)
		type value struct {
			val string
			is  bool
		}
		first := map[string]value{}
		for n := range 60 {
			k := keys[r.IntN(len(keys))]
			switch r.IntN(4) {
			case 0:
				otherCommits(t, m, put(k, fmt.Sprint(n)))
			case 1:
				otherCommits(t, m, drop(k))
			case 2:
				s, is, why := m.Get(x, k)
				must(t, why)
				if was, got := first[k]; got && was != (value{s, is}) {
					t.Fatal("Get of", k, ":", s, is, "and not", was)
				}
				first[k] = value{s, is}
			case 3:
				if r.IntN(8) == 0 {
					must(t, m.Put(x, k, fmt.Sprint("own", n)))
					first[k] = value{fmt.Sprint("own", n), true}
				}
			}
		}
	}
}

package plan_test

import (
	"fmt"
	"math"
	"slices"
	"testing"

	"lading/api"
	"lading/plan"
)

func must(t *testing.T, why api.Errno) {
	t.Helper()
	if why != api.OK {
		t.Fatal("error", why)
	}
}

func checkoutSteps() []api.StepKind {
	return []api.StepKind{api.StepReserve, api.StepAuthorise, api.StepBook, api.StepCapture, api.StepSend}
}

func returnSteps() []api.StepKind {
	return []api.StepKind{api.StepLabel, api.StepReceive, api.StepRefund}
}

// undoings are what undoes the first steps of a checkout, in the order in which those are done.
func undoings() []api.StepKind {
	return []api.StepKind{api.StepRelease, api.StepVoid, api.StepUnbook, api.StepRefund}
}

// every is each number that a kind can be.
func every[K ~uint8]() []K {
	var l []K
	for n := range 1 << 8 {
		l = append(l, K(n))
	}
	return l
}

// stand is a saga that is right, with the step that is next (StepNone: it is over), how many are left, and whether a refusal turns it back.
type stand struct {
	saga  api.Saga
	next  api.StepKind
	left  int
	turns bool
}

// right are all sagas that are right, of one order, as the chapter's words list them.
func right(order int) []stand {
	var l []stand
	for at := range 6 {
		s := stand{saga: api.Saga{Order: order, Kind: api.SagaCheckout, At: at}, left: 5 - at}
		if at < 5 {
			s.next, s.turns = checkoutSteps()[at], true
		}
		l = append(l, s)
	}
	for _, k := range []api.SagaKind{api.SagaCheckout, api.SagaCancel} {
		for at := range 5 {
			s := stand{saga: api.Saga{Order: order, Kind: k, At: at, Undoing: true}, left: at}
			if at > 0 {
				s.next = undoings()[at-1]
			}
			l = append(l, s)
		}
	}
	for at := range 4 {
		s := stand{saga: api.Saga{Order: order, Kind: api.SagaReturn, At: at}, left: 3 - at}
		if at < 3 {
			s.next, s.turns = returnSteps()[at], at == 0
		}
		l = append(l, s)
	}
	return append(l, stand{saga: api.Saga{Order: order, Kind: api.SagaReturn, Undoing: true}})
}

// orders are numbers that an order may have, and may not: a saga is right with each of them.
func orders() []int {
	return []int{1, 7, api.MaxOrders, 0, -1, math.MinInt, api.MaxOrders + 1, math.MaxInt}
}

// Promises 16.1 to 16.3, by the chapter's example.
func TestExample(t *testing.T) {
	s, why := plan.Advance(api.Saga{Order: 1, Kind: api.SagaCheckout, At: 2}, false)
	must(t, why)
	if s != (api.Saga{Order: 1, Kind: api.SagaCheckout, At: 2, Undoing: true}) {
		t.Error("refused:", s)
	}
	for _, want := range []api.StepKind{api.StepVoid, api.StepRelease} {
		step, is, why := plan.Next(s)
		if step != want || !is || why != api.OK {
			t.Error("Next:", step, is, why)
		}
		s, why = plan.Advance(s, true)
		must(t, why)
	}
	if step, is, why := plan.Next(s); step != api.StepNone || is || why != api.OK {
		t.Error("Next of what is over:", step, is, why)
	}
}

// Promise 16.1: the steps of each kind, and none of what is no kind.
func TestSteps(t *testing.T) {
	want := map[api.SagaKind][]api.StepKind{api.SagaCheckout: checkoutSteps(), api.SagaCancel: checkoutSteps(), api.SagaReturn: returnSteps()}
	for _, k := range every[api.SagaKind]() {
		if l := plan.Steps(k); !slices.Equal(l, want[k]) {
			t.Errorf("Steps of %d: %v, and not %v", k, l, want[k])
		}
	}
}

// Promise 16.4: whoever asked may change the steps that were answered: no other answer is changed by it.
func TestStepsAreNewMemory(t *testing.T) {
	kinds := []api.SagaKind{api.SagaCheckout, api.SagaCancel, api.SagaReturn}
	var kept [][]api.StepKind
	for _, k := range kinds {
		kept = append(kept, plan.Steps(k))
	}
	for _, k := range kinds {
		l := plan.Steps(k)
		clear(l[:cap(l)])
		_ = append(l[:0], api.StepSend, api.StepSend)
	}
	for i, k := range kinds {
		want := checkoutSteps()
		if k == api.SagaReturn {
			want = returnSteps()
		}
		if !slices.Equal(kept[i], want) || !slices.Equal(plan.Steps(k), want) {
			t.Errorf("Steps of %d have been changed: %v, %v", k, kept[i], plan.Steps(k))
		}
	}
	for _, x := range right(1) {
		if step, _, why := plan.Next(x.saga); step != x.next || why != api.OK {
			t.Errorf("Next of %v has been changed: %d, error %d", x.saga, step, why)
		}
	}
}

// Promise 16.1: what undoes a step, for four of them; nothing for the others and for what is no step.
func TestUndo(t *testing.T) {
	for _, s := range every[api.StepKind]() {
		want, is := api.StepNone, false
		if at := slices.Index(checkoutSteps()[:4], s); at >= 0 {
			want, is = undoings()[at], true
		}
		if step, undone := plan.Undo(s); step != want || undone != is {
			t.Errorf("Undo of %d: %d, %t, and not %d, %t", s, step, undone, want, is)
		}
	}
}

// Promise 16.1: at which steps someone is asked, and at which a refusal turns the saga back; at what is no step neither.
func TestAsksAndTurns(t *testing.T) {
	asks := []api.StepKind{api.StepAuthorise, api.StepBook, api.StepCapture, api.StepSend, api.StepVoid, api.StepUnbook, api.StepRefund, api.StepLabel}
	turns := []api.StepKind{api.StepReserve, api.StepAuthorise, api.StepBook, api.StepCapture, api.StepSend, api.StepLabel}
	for _, s := range every[api.StepKind]() {
		if plan.Asks(s) != slices.Contains(asks, s) {
			t.Error("Asks of", s)
		}
		if plan.Turns(s) != slices.Contains(turns, s) {
			t.Error("Turns of", s)
		}
	}
}

// notRight are sagas that are not right, in all the ways that the chapter names.
func notRight() map[string]api.Saga {
	l := map[string]api.Saga{"none": {}}
	put := func(s api.Saga) { l[fmt.Sprint(s)] = s }
	for _, order := range []int{1, 0, math.MinInt} {
		for _, k := range every[api.SagaKind]() {
			for at := -1; at <= 6; at++ {
				if k == api.SagaNone || k >= api.SagaCount {
					put(api.Saga{Order: order, Kind: k, At: at})
					put(api.Saga{Order: order, Kind: k, At: at, Undoing: true})
				}
			}
		}
		for _, k := range []api.SagaKind{api.SagaCheckout, api.SagaCancel, api.SagaReturn} {
			for _, at := range []int{-1, -2, math.MinInt, 6, 7, 256, 1 << 32, math.MaxInt} {
				put(api.Saga{Order: order, Kind: k, At: at})
				put(api.Saga{Order: order, Kind: k, At: at, Undoing: true})
			}
		}
		for at := range 6 {
			put(api.Saga{Order: order, Kind: api.SagaCancel, At: at})
		}
		put(api.Saga{Order: order, Kind: api.SagaCheckout, At: 5, Undoing: true})
		put(api.Saga{Order: order, Kind: api.SagaCancel, At: 5, Undoing: true})
		put(api.Saga{Order: order, Kind: api.SagaReturn, At: 4})
		put(api.Saga{Order: order, Kind: api.SagaReturn, At: 5})
		for at := 1; at <= 5; at++ {
			put(api.Saga{Order: order, Kind: api.SagaReturn, At: at, Undoing: true})
		}
	}
	return l
}

// Promise 16.2: sagas that are not right are ErrRange, of every call that is given one, with nothing beside it. Rule P1: none panics.
func TestNotRight(t *testing.T) {
	for name, s := range notRight() {
		if why := plan.Check(s); why != api.ErrRange {
			t.Errorf("Check of %s: error %d", name, why)
		}
		if step, is, why := plan.Next(s); step != api.StepNone || is || why != api.ErrRange {
			t.Errorf("Next of %s: %d, %t, error %d", name, step, is, why)
		}
		for _, done := range []bool{false, true} {
			if next, why := plan.Advance(s, done); next != (api.Saga{}) || why != api.ErrRange {
				t.Errorf("Advance of %s, %t: %v, error %d", name, done, next, why)
			}
		}
		if n, why := plan.Left(s); n != 0 || why != api.ErrRange {
			t.Errorf("Left of %s: %d, error %d", name, n, why)
		}
	}
}

// Promises 16.2 and 16.3: of every saga that is right, whatever its order's number is, what is next and how many steps are left.
func TestRight(t *testing.T) {
	for _, order := range orders() {
		for _, x := range right(order) {
			if why := plan.Check(x.saga); why != api.OK {
				t.Errorf("Check of %v: error %d", x.saga, why)
			}
			if step, is, why := plan.Next(x.saga); step != x.next || is != (x.next != api.StepNone) || why != api.OK {
				t.Errorf("Next of %v: %d, %t, error %d, and not %d", x.saga, step, is, why, x.next)
			}
			if n, why := plan.Left(x.saga); n != x.left || why != api.OK {
				t.Errorf("Left of %v: %d, error %d, and not %d", x.saga, n, why, x.left)
			}
		}
	}
}

// Promise 16.2: what every right saga is behind its next step, done and refused; ErrState and nothing, if it is over.
func TestAdvance(t *testing.T) {
	for _, order := range orders() {
		for _, x := range right(order) {
			for _, done := range []bool{false, true} {
				want, why := x.saga, api.OK
				switch {
				case x.next == api.StepNone:
					want, why = api.Saga{}, api.ErrState
				case done && x.saga.Undoing:
					want.At--
				case done:
					want.At++
				case x.turns:
					want.Undoing = true
				}
				if s, got := plan.Advance(x.saga, done); s != want || got != why {
					t.Errorf("Advance of %v, %t: %v, error %d, and not %v, error %d", x.saga, done, s, got, want, why)
				}
			}
		}
	}
}

// Promise 16.7: what is answered is right: sagas by Check, steps by being steps.
func TestAnswersAreRight(t *testing.T) {
	for _, x := range right(9) {
		for _, done := range []bool{false, true} {
			if s, why := plan.Advance(x.saga, done); why == api.OK && (plan.Check(s) != api.OK || s.Order != 9 || s.Kind != x.saga.Kind) {
				t.Errorf("Advance of %v, %t: %v", x.saga, done, s)
			}
		}
		if step, is, _ := plan.Next(x.saga); is != (step > api.StepNone && step < api.StepCount) {
			t.Errorf("Next of %v: %d, %t", x.saga, step, is)
		}
	}
}

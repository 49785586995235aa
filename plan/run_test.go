package plan_test

import (
	"math/rand/v2"
	"slices"
	"testing"

	"lading/api"
	"lading/plan"
)

// toEnd has every step of a saga done, and tells which those were.
func toEnd(t *testing.T, s api.Saga) (api.Saga, []api.StepKind) {
	t.Helper()
	var steps []api.StepKind
	for range 9 {
		must(t, plan.Check(s))
		step, is, why := plan.Next(s)
		must(t, why)
		if !is {
			return s, steps
		}
		steps = append(steps, step)
		s, why = plan.Advance(s, true)
		must(t, why)
	}
	t.Fatal("a saga that does not end:", s)
	return s, nil
}

// after has n steps of a saga done.
func after(t *testing.T, s api.Saga, n int) api.Saga {
	t.Helper()
	for range n {
		next, why := plan.Advance(s, true)
		must(t, why)
		s = next
	}
	return s
}

// undone are what undoes the first n steps of a checkout, the last one first.
func undone(n int) []api.StepKind {
	l := slices.Clone(undoings()[:n])
	slices.Reverse(l)
	return l
}

// Promises 16.3 and 16.5: with every step done each right saga is over behind just Left steps, and Left is one less behind each.
func TestLeftIsWhatItTakes(t *testing.T) {
	for _, x := range right(3) {
		left, why := plan.Left(x.saga)
		must(t, why)
		if _, steps := toEnd(t, x.saga); len(steps) != left {
			t.Errorf("%v is over behind %d steps, and not %d", x.saga, len(steps), left)
		}
		for s := x.saga; left > 0; left-- {
			if n, why := plan.Left(s); n != left || why != api.OK {
				t.Errorf("Left of %v: %d, error %d, and not %d", s, n, why, left)
			}
			s = after(t, s, 1)
		}
	}
}

// Promise 16.2: from their beginning on, with every step done, sagas do their steps in order and are at their end then.
func TestAllDone(t *testing.T) {
	for k, want := range map[api.SagaKind][]api.StepKind{api.SagaCheckout: checkoutSteps(), api.SagaReturn: returnSteps()} {
		s, steps := toEnd(t, api.Saga{Order: 4, Kind: k})
		if !slices.Equal(steps, want) || s != (api.Saga{Order: 4, Kind: k, At: len(want)}) {
			t.Errorf("a saga of kind %d: %v, %v", k, steps, s)
		}
	}
}

// Promises 16.5 and 16.6: a checkout that is refused at any place undoes just what was done, the last one first; so does one that is cancelled there.
func TestCheckoutGoesBack(t *testing.T) {
	for at := range 5 {
		s := after(t, api.Saga{Order: 4, Kind: api.SagaCheckout}, at)
		cancel := api.Saga{Order: 4, Kind: api.SagaCancel, At: s.At, Undoing: true}
		s, why := plan.Advance(s, false)
		must(t, why)
		for _, back := range []api.Saga{s, cancel} {
			if n, why := plan.Left(back); n > at || why != api.OK {
				t.Errorf("%d steps were done, %d are left, error %d", at, n, why)
			}
			end, steps := toEnd(t, back)
			if !slices.Equal(steps, undone(at)) || end.At != 0 || !end.Undoing {
				t.Errorf("a saga of kind %d, turned back at %d: %v, %v", back.Kind, at, steps, end)
			}
		}
	}
}

// Promises 16.5 and 16.6: a return that is refused at its first step is over, with nothing to undo; at the others it is tried again.
func TestReturnIsRefused(t *testing.T) {
	for at := range 3 {
		s := after(t, api.Saga{Order: 4, Kind: api.SagaReturn}, at)
		refused, why := plan.Advance(s, false)
		must(t, why)
		_, steps := toEnd(t, refused)
		if at == 0 && (refused != api.Saga{Order: 4, Kind: api.SagaReturn, Undoing: true} || len(steps) != 0) {
			t.Error("refused at its first step:", refused, steps)
		}
		if at > 0 && (refused != s || !slices.Equal(steps, returnSteps()[at:])) {
			t.Errorf("refused at %d: %v, %v", at, refused, steps)
		}
	}
}

// Promise 16.2: a saga that goes back is tried again where it is refused, however often, and still undoes all.
func TestRefusedOnTheWayBack(t *testing.T) {
	for _, k := range []api.SagaKind{api.SagaCheckout, api.SagaCancel} {
		for at := 1; at < 5; at++ {
			s := api.Saga{Order: 4, Kind: k, At: at, Undoing: true}
			for range 9 {
				again, why := plan.Advance(s, false)
				if again != s || why != api.OK {
					t.Fatalf("Advance of %v: %v, error %d", s, again, why)
				}
			}
			if _, steps := toEnd(t, s); !slices.Equal(steps, undone(at)) {
				t.Errorf("%v: %v", s, steps)
			}
		}
	}
}

// Promises 16.5 to 16.7: whichever steps are refused, what was done ahead of the turn is undone in turn, and every saga ends.
func TestAnyRefusals(t *testing.T) {
	r := rand.New(rand.NewPCG(5, 16))
	for range 4000 {
		s := api.Saga{Order: 4, Kind: []api.SagaKind{api.SagaCheckout, api.SagaReturn}[r.IntN(2)]}
		var done, back []api.StepKind
		for {
			must(t, plan.Check(s))
			step, is, why := plan.Next(s)
			must(t, why)
			if !is {
				break
			}
			fine := r.IntN(4) > 0
			if fine && s.Undoing {
				back = append(back, step)
			} else if fine {
				done = append(done, step)
			}
			if s, why = plan.Advance(s, fine); why != api.OK {
				t.Fatal("Advance: error", why)
			}
		}
		if !s.Undoing && (!slices.Equal(done, plan.Steps(s.Kind)) || len(back) != 0) {
			t.Fatal("over, going forwards:", s, done, back)
		}
		if s.Undoing && !slices.Equal(back, undone(len(done))) {
			t.Fatal("over, turned back:", s, done, back)
		}
	}
}

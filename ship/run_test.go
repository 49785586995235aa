package ship_test

import (
	"maps"
	"math/rand/v2"
	"slices"
	"testing"

	"lading/api"
	"lading/ship"
)

// goOn has a shipment go on by every move that makes something of it, and tells behind how many moves each way ends.
func goOn(t *testing.T, l []api.Shipment, order int, ahead []api.ShipState, ends *[]int) {
	t.Helper()
	s, why := ship.Of(l, order)
	must(t, why)
	if slices.Contains(ahead, s) {
		t.Fatal("a state that was there ahead:", ahead, s)
	}
	on := 0
	for _, m := range moves() {
		k, why := ship.Move(l, order, m, api.VerdictAccept)
		if why != api.OK {
			continue
		}
		on++
		goOn(t, k, order, append(slices.Clone(ahead), s), ends)
	}
	if ship.Ends(s) != (on == 0) {
		t.Error("Ends of", s, "with", on, "moves from there on")
	}
	if on == 0 {
		*ends = append(*ends, len(ahead))
	}
}

// Promise 15.4: by each way a shipment ends, behind two, four or five moves, and is never in a state in which it was.
func TestEveryWayEnds(t *testing.T) {
	for _, l := range [][]api.Shipment{nil, six(), in(many(api.MaxOrders), 3, api.ShipNone)} {
		var ends []int
		goOn(t, l, 3, nil, &ends)
		slices.Sort(ends)
		if !slices.Equal(ends, []int{2, 4, 5}) {
			t.Error("the ways end behind", ends)
		}
	}
}

// road is how far shipments are, in the plainest way.
type road map[int]api.ShipState

func (r road) list() []api.Shipment {
	var l []api.Shipment
	for _, order := range slices.Sorted(maps.Keys(r)) {
		l = append(l, api.Shipment{Order: order, State: r[order]})
	}
	return l
}

// Promises 15.2, 15.4 and 15.5, and rules P3 and P7: a long run is what the plain road is, move by move: no shipment is lost or moved by another one's move, none is moved by what is refused.
func TestLongRun(t *testing.T) {
	for seed := range uint64(20) {
		r := rand.New(rand.NewPCG(seed, 15))
		was := road{}
		var l []api.Shipment
		moved := map[int]int{}
		for range 800 {
			order, m, v := r.IntN(44)-1, api.ShipMove(r.IntN(8)), api.Verdict(r.IntN(12)/5)
			next, want := expected(was[order], m, v)
			if order < 1 {
				want = api.ErrRange
			}
			k, why := ship.Move(l, order, m, v)
			if why != want {
				t.Fatalf("Move of order %d by %d, verdict %d: error %d, and not %d", order, m, v, why, want)
			}
			if why != api.OK {
				if len(k) != 0 || !slices.Equal(l, was.list()) {
					t.Fatal("what was refused has done something")
				}
				continue
			}
			was[order] = next
			moved[order]++
			must(t, ship.Check(k))
			if !slices.Equal(k, was.list()) {
				t.Fatalf("Move of order %d by %d: %v, and not %v", order, m, k, was.list())
			}
			l = k
		}
		for order, n := range moved {
			if n > 5 {
				t.Error("order", order, "was moved", n, "times")
			}
		}
	}
}

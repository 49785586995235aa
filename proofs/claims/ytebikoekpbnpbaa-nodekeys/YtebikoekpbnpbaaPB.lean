/- a page that a call answers, laid into a box that is made ahead of it or behind it -/
import Derived.Test.YtebikoekpbnpbaaNY
import Derived.Test.YtebikoekpbnpbaaNQ
namespace Go.Proofs.Ytebikoekpbnpbaa
open Go.RowKit Cod
set_option maxRecDepth 100000
set_option linter.unusedVariables false
set_option linter.unusedSimpArgs false
theorem hTwo {P : Program} {ops : Array Oper} {Q : Exit → Act → World → Prop} {md : Region.Mode} {S : World → Prop} {i j : Nat} {o o' : Oper} {fuel : Nat} {listed : Array Bool} {a : Act} {w : World} (ho : ops[i]? = some o) (ho' : ops[j]? = some o') (hr : Region.ready md ops listed = [i, j])
    (h : ∀ K' : Act → World → Prop, Shut (∀ a w, S w → (S w → wpAnyH P md ops Q S fuel (listed.setIfInBounds i true) a w) → K' a w) → if Region.wanted o (yielded ops a.tmps) = true then Oper.wp P o a w K' Q else K' (a.put o.dst undef) w)
    (h' : ∀ K' : Act → World → Prop, Shut (∀ a w, S w → (S w → wpAnyH P md ops Q S fuel (listed.setIfInBounds j true) a w) → K' a w) → if Region.wanted o' (yielded ops a.tmps) = true then Oper.wp P o' a w K' Q else K' (a.put o'.dst undef) w) : wpAnyH P md ops Q S (fuel + 1) listed a w :=
  wpAnyH_ready hr (by simp) (AllReadyH.cons ho h (AllReadyH.cons ho' h' AllReadyH.nil))
structure Boxed (wr W : World) (G bx : Nat) (lf : Bool) (v : Pv) (p : Pg) : Prop where
  blk : BlkG W bx lf v
  nw : NwG W G v p
  bel : Below wr.heap.size wr W
  low : wr.heap.size ≤ bx
theorem boxA {wr w2 : World} {G : Nat} {lf : Bool} {v : Pv} {p : Pg} (hG : G < wr.heap.size) (hn : NwG w2 (wr.drew.heap.size + 1) v p) (hb : Below wr.drew.heap.size wr.drew w2) :
    Boxed wr (set4 (w2.alloc (.cells pg0c 25)) w2.heap.size (.bool lf) (.slice v.ka v.kn v.kc) (.slice v.va v.vn v.vc) (.slice v.ia v.inn v.ic)) G w2.heap.size lf v p := by
  have hs : wr.drew.heap.size = wr.heap.size := rfl
  have h1 : Below wr.heap.size wr w2 := (Below.refl _ wr).drew.trans hb
  have hz : (w2.alloc (.cells pg0c 25)).heap[w2.heap.size]? = some (.cells pg0c 25 (0, 0)) := heap_alloc_new _ _
  refine ⟨blk4 hz _ _ _ _, ?_, below4 (h1.alloc h1.size _) h1.size _ _ _ _, h1.size⟩
  refine (hn.mono (by omega)).kept (by rw [size4, World.size_alloc]; omega) (fun b _ hlt => ?_)
  rw [out4 (by omega), heap_al, if_neg (by omega)]
theorem boxB {wr w2 : World} {G : Nat} {lf : Bool} {v : Pv} {p : Pg} (hG : G < wr.heap.size) (hn : NwG w2 ((wr.alloc (.cells pg0c 25)).drew.heap.size + 1) v p) (hb : Below (wr.alloc (.cells pg0c 25)).drew.heap.size (wr.alloc (.cells pg0c 25)).drew w2) :
    Boxed wr (set4 w2 wr.heap.size (.bool lf) (.slice v.ka v.kn v.kc) (.slice v.va v.vn v.vc) (.slice v.ia v.inn v.ic)) G wr.heap.size lf v p := by
  have hs : (wr.alloc (.cells pg0c 25)).drew.heap.size = wr.heap.size + 1 := by show (wr.alloc _).heap.size = _; rw [World.size_alloc]
  have h0 : Below wr.heap.size wr (wr.alloc (.cells pg0c 25)).drew := ((Below.refl _ wr).alloc (Nat.le_refl _) _).drew
  have h1 : Below wr.heap.size wr w2 := h0.trans (hb.mono (by omega))
  have hz : (wr.alloc (.cells pg0c 25)).drew.heap[wr.heap.size]? = some (.cells pg0c 25 (0, 0)) := heap_alloc_new wr _
  have hz2 : w2.heap[wr.heap.size]? = some (.cells pg0c 25 (0, 0)) := (hb.block _ (by omega)).trans hz
  refine ⟨blk4 hz2 _ _ _ _, ?_, below4 h1 (Nat.le_refl _) _ _ _ _, Nat.le_refl _⟩
  exact (hn.set4 (by omega) _ _ _ _).mono (by omega)
theorem boxB_blk {wr w2 : World} (hb : Below (wr.alloc (.cells pg0c 25)).drew.heap.size (wr.alloc (.cells pg0c 25)).drew w2) : w2.heap[wr.heap.size]? = some (.cells pg0c 25 (0, 0)) :=
  (hb.block _ (by show _ < (wr.alloc _).heap.size; rw [World.size_alloc]; omega)).trans (heap_alloc_new wr _)
end Go.Proofs.Ytebikoekpbnpbaa

/- mvcc.asked -/
import Derived.Test.YtlkmcbelmldleaaGreatVB
namespace Go.Proofs.YtlkmcbelmldleaaGreat
open Go.RowKit
set_option maxRecDepth 40000
def askE (low : Nat) (l : List Vr) (t : Nat) : Int := if goodB low l = true then (if t < low then 9 else 0) else 2
set_option maxHeartbeats 1000000 in
/-- mvcc.asked -/
theorem asked_any (a : Option Addr) (len cap low t : Nat) (l : List Vr) (w : World) (h : IsV w a len cap l) :
    Calls Tryz.prog 82 #[.agg #[.slice a len cap, .int .u64 (low : Nat)], .int .u64 (t : Nat)] w fun e w' => e = .returned (.int .i64 (askE low l t)) ∧ Below w.heap.size w w' := by
  have HV := hide h
  have HNW := hide (fun o : Obj => heap_alloc_new w o)
  have HAL := hide (fun o : Obj => (Below.refl w.heap.size w).alloc (Nat.le_refl _) o)
  clear h
  go_enter Tryz.func82, Tryz.ntmps82
  go_wp2_with fail
  generalize hW1 : w.alloc (.cells #[.slice a len cap, .int .u64 (low : Nat)] 31) = W1
  have HB1 : Hid (Below w.heap.size w W1) := hide (by rw [← hW1]; exact HAL.out _)
  have HX1 : Hid (W1.heap[w.heap.size]? = some (.cells #[.slice a len cap, .int .u64 (low : Nat)] 31 (0, 0))) := hide (by rw [← hW1]; exact HNW.out _)
  clear hW1 HAL HNW
  refine (check_any a len cap low l W1 (HV.out.below HB1.out)).mono ?_
  rintro e w2 ⟨rfl, hb2⟩
  have HB2 := hide (HB1.out.trans (hb2.mono HB1.out.size))
  have g1 := cell_blk (j := 1) ((hb2.block w.heap.size (heap_lt HX1.out)).trans HX1.out) rfl
  simp only [List.getElem_toArray, List.getElem_cons_zero, List.getElem_cons_succ] at g1
  clear hb2
  unfold checkE
  by_cases hg : goodB low l = true
  · rw [if_pos hg]
    by_cases ht : t < low
    · have d1 : decide ((t : Int) < (low : Int)) = true := decide_eq_true (by omega)
      have d2 : decide (t < low) = true := decide_eq_true ht
      have HE : Hid (askE low l t = 9) := hide (by unfold askE; rw [if_pos hg, if_pos ht])
      clear hg
      go_wp2
      go_ret
      exact ⟨by rw [HE.out]; rfl, HB2.out⟩
    · have d1 : decide ((t : Int) < (low : Int)) = false := decide_eq_false (by omega)
      have d2 : decide (t < low) = false := decide_eq_false ht
      have HE : Hid (askE low l t = 0) := hide (by unfold askE; rw [if_pos hg, if_neg ht])
      clear hg
      go_wp2
      go_ret
      exact ⟨by rw [HE.out]; rfl, HB2.out⟩
  · rw [if_neg hg]
    have HE : Hid (askE low l t = 2) := hide (by unfold askE; rw [if_neg hg])
    clear hg
    go_wp2
    go_ret
    exact ⟨by rw [HE.out]; rfl, HB2.out⟩
end Go.Proofs.YtlkmcbelmldleaaGreat

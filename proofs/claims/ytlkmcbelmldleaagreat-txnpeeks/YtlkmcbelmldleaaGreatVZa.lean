/- the document's asked, seen, Get, Last -/
import Derived.Test.YtlkmcbelmldleaaGreatVYd
namespace Go.Proofs.YtlkmcbelmldleaaGreat
open Go.RowKit
set_option maxRecDepth 40000
set_option maxRecDepth 40000 in
set_option maxHeartbeats 1000000 in
/-- the document's asked -/
theorem rasked_any (a : Option Addr) (len cap low t : Nat) (l : List Vr) (w : World) (h : IsV w a len cap l) :
    Calls Tryz.prog 147 #[.agg #[.slice a len cap, .int .u64 (low : Nat)], .int .u64 (t : Nat)] w fun e w' => e = .returned (.int .i64 (askE low l t)) ∧ Below w.heap.size w w' := by
  have HB0 : Hid (Below w.heap.size w (w.alloc (.cells #[.slice a len cap, .int .u64 (low : Nat)] 31))) := hide ((Below.refl _ w).alloc (Nat.le_refl _) _)
  have HV0 := hide (h.below HB0.out)
  have HT0 : Hid (Two (w.alloc (.cells #[.slice a len cap, .int .u64 (low : Nat)] 31)) w.heap.size (.slice a len cap) (.int .u64 (low : Nat))) := hide (heap_alloc_new _ _)
  have HA : Hid (askE low l t = if goodB low l = true then if t < low then 9 else 0 else 2) := hide rfl
  generalize askE low l t = R at *
  clear h
  go_enter Tryz.func147, Tryz.ntmps147
  go_wp2_with fail
  generalize (w.alloc (.cells #[.slice a len cap, .int .u64 (low : Nat)] 31)) = V at *
  refine (rcheck_any a len cap low l V HV0.out).mono ?_
  rintro e w1 ⟨rfl, hb1⟩
  have HB1 := hide (HB0.out.trans (hb1.mono HB0.out.size))
  obtain ⟨c0, c1'⟩ := cells2_of_blk ((hb1.block _ (heap_lt HT0.out)).trans HT0.out)
  clear hb1 HB0 HV0 HT0
  unfold checkE
  by_cases hg : goodB low l = true
  · rw [if_pos hg] at HA ⊢
    clear hg
    by_cases h1 : t < low
    · have h1I : (t : Int) < (low : Int) := by omega
      have HR : Hid (R = 9) := hide (by rw [HA.out, if_pos h1])
      clear HA
      go_wp2
      go_ret
      exact ⟨ret_int HR.out.symm, HB1.out⟩
    · have h1I : ¬ (t : Int) < (low : Int) := by omega
      have HR : Hid (R = 0) := hide (by rw [HA.out, if_neg h1])
      clear HA
      go_wp2
      go_ret
      exact ⟨ret_int HR.out.symm, HB1.out⟩
  · rw [if_neg hg] at HA ⊢
    have HR : Hid (R = 2) := hide HA.out
    clear hg HA
    go_wp2
    go_ret
    exact ⟨ret_int HR.out.symm, HB1.out⟩
theorem take_last (key : ByteArray) (l : List Vr) (k : Nat) (h : k < l.length) : (l.take (k + 1)).filter (sameK key) = (l.take k).filter (sameK key) ++ (if sameK key (l.getD k Vr0) = true then [l.getD k Vr0] else []) := by
  rw [List.take_add_one, List.getElem?_eq_getElem h, List.filter_append]
  congr 1
  rw [List.getD_eq_getElem?_getD, List.getElem?_eq_getElem h]
  simp only [Option.toList_some, Option.getD_some]
  cases hs : sameK key l[k] <;> simp [hs]
end Go.Proofs.YtlkmcbelmldleaaGreat

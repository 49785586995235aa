/- MvccLast, walked -/
import Derived.Test.YtpgdmkjfgmiacaaXd
namespace Go.Proofs.Ytpgdmkjfgmiacaa
open Go.RowKit
theorem good_at {low : Nat} {l : List Vr} (h : goodB low l = true) {x : Vr} (hx : x ∈ l) : rightB x = true := by
  obtain ⟨i, hi, e⟩ := List.getElem_of_mem hx
  have := (goodB_iff.1 h).2.2 i hi
  unfold okAt at this
  rw [List.getD_eq_getElem?_getD, List.getElem?_eq_getElem hi] at this
  simp only [Option.getD_some, Bool.and_eq_true] at this
  rw [← e]
  exact this.1
theorem right_time {x : Vr} (h : rightB x = true) : 1 ≤ x.at_ ∧ x.at_ ≤ 2305843009213693952 := by
  unfold rightB timeB at h
  simp only [Bool.and_eq_true, decide_eq_true_eq] at h
  exact h.1.1.1
/-- of versions the last one -/
theorem last_split {q : List Vr} (h : q ≠ []) : ∃ r x, q = r ++ [x] ∧ lastV q = x.at_ := by
  refine ⟨q.dropLast, q.getLast h, (List.dropLast_concat_getLast h).symm, ?_⟩
  unfold lastV
  rw [List.getD_eq_getElem?_getD, List.getElem?_eq_getElem (by have := List.length_pos_iff.2 h; omega)]
  rw [List.getLast_eq_getElem]
  rfl
theorem lastTo_last {r : List Vr} {x : Vr} {t : Nat} (h : x.at_ ≤ t) : lastTo (r ++ [x]) t = some x := by
  unfold lastTo
  simp [h]
theorem last_zero {low : Nat} {l : List Vr} {key : ByteArray} (hg : goodB low l = true) (h : lastV (l.filter (sameK key)) = 0) : l.filter (sameK key) = [] := by
  by_cases hq : l.filter (sameK key) = []
  · exact hq
  · obtain ⟨r, x, e, hx⟩ := last_split hq
    have hm : x ∈ l := (List.mem_filter.1 (show x ∈ l.filter (sameK key) by rw [e]; simp)).1
    have := (right_time (good_at hg hm)).1
    omega
theorem getR_none {low : Nat} {l : List Vr} {key : ByteArray} {t : Nat} (hg : goodB low l = true) (hq : l.filter (sameK key) = []) (ht : ¬ t < low) : getR low l key t = (⟨#[]⟩, false, 0) := by
  unfold getR askE
  rw [if_pos hg, if_neg ht, hq]
  rfl
theorem getR_last {low : Nat} {l : List Vr} {key : ByteArray} {t : Nat} (hg : goodB low l = true) (h : ¬ lastV (l.filter (sameK key)) = 0) (ht : ¬ t < low) (hl : ¬ t < lastV (l.filter (sameK key))) : ∃ s b, getR low l key t = (s, b, 0) ∧ ∀ t', ¬ t' < low → ¬ t' < lastV (l.filter (sameK key)) → getR low l key t' = (s, b, 0) := by
  have hq : l.filter (sameK key) ≠ [] := fun e => h (by rw [e]; rfl)
  obtain ⟨r, x, e, hx⟩ := last_split hq
  have key' : ∀ t', ¬ t' < low → ¬ t' < lastV (l.filter (sameK key)) → getR low l key t' = (x.val, !x.gone, 0) := fun t' h1 h2 => by
    unfold getR askE
    rw [if_pos hg, if_neg h1, if_pos rfl, e, lastTo_last (by omega)]
    rfl
  exact ⟨x.val, !x.gone, key' t ht hl, key'⟩
set_option maxRecDepth 40000 in
set_option maxHeartbeats 2000000 in
theorem lastWalk (a : Option Addr) (len cap : Nat) (l : List Vr) (low : Nat) (key : ByteArray) (t : Nat) (w : World) (hL : IsV w a len cap l) :
    Calls Try.prog 9 #[.agg #[.slice a len cap, .int .u64 (low : Nat)], .string key, .int .u64 (t : Nat)] w fun e w' => e = .returned (.bool true) ∧ Below w.heap.size w w' := by
  have HB0 : Hid (Below w.heap.size w (w.alloc (.cells #[.slice a len cap, .int .u64 (low : Nat)] 25))) := hide ((Below.refl _ w).alloc (Nat.le_refl _) _)
  have HV0 := hide (hL.below HB0.out)
  have HT0 : Hid (Two (w.alloc (.cells #[.slice a len cap, .int .u64 (low : Nat)] 25)) w.heap.size (.slice a len cap) (.int .u64 (low : Nat))) := hide (heap_alloc_new _ _)
  clear hL
  go_enter Try.func9, Try.ntmps9
  go_wp2_with fail
  generalize (w.alloc (.cells #[.slice a len cap, .int .u64 (low : Nat)] 25)) = V at *
  refine (lives_any V).mono ?_
  rintro e w1 ⟨rfl, hb1⟩
  have HB1 := hide (HB0.out.trans (hb1.mono HB0.out.size))
  have HV1 := hide (HV0.out.below hb1)
  have HT1 : Hid (Two w1 w.heap.size (.slice a len cap) (.int .u64 (low : Nat))) := hide ((hb1.block _ (heap_lt HT0.out)).trans HT0.out)
  obtain ⟨c0, c1'⟩ := cells2_of_blk HT1.out
  clear hb1 HB0 HV0 HT0
  go_wp2_with fail
  refine (last_any a len cap low key l w1 HV1.out).mono ?_
  rintro e w2 ⟨rfl, hb2⟩
  have HB2 := hide (HB1.out.trans (hb2.mono HB1.out.size))
  have HV2 := hide (HV1.out.below hb2)
  have HT2 : Hid (Two w2 w.heap.size (.slice a len cap) (.int .u64 (low : Nat))) := hide ((hb2.block _ (heap_lt HT1.out)).trans HT1.out)
  obtain ⟨d0, d1⟩ := cells2_of_blk HT2.out
  clear hb2 HB1 HV1 HT1 c0 c1'
  unfold lastR
  by_cases hg : goodB low l = true
  rotate_left
  · rw [if_neg hg]
    clear hg
    go_wp2
    go_ret
    exact ⟨rfl, HB2.out⟩
  rw [if_pos hg]
  have HG := hide hg
  clear hg
  by_cases hz : lastV (l.filter (sameK key)) = 0
  · have HGN := hide (fun t' ht' => getR_none (t := t') HG.out (last_zero HG.out hz) ht')
    rw [hz]
    clear hz
    have HGT := hide (get_any a len cap low (max t low) key l w2 HV2.out)
    rw [HGN.out _ (by omega), show ((max t low : Nat) : Int) = max (t : Int) (low : Int) by omega] at HGT
    go_wp2_with fail
    refine HGT.out.mono ?_
    rintro e w3 ⟨rfl, hb3⟩
    have HB3 := hide (HB2.out.trans (hb3.mono HB2.out.size))
    clear hb3 HGT HGN
    go_wp2
    go_ret
    exact ⟨rfl, HB3.out⟩
  · have HN := hide hz
    have HGL := hide (fun t' (h1 : ¬ t' < low) (h2 : ¬ t' < lastV (l.filter (sameK key))) => getR_last (t := t') HG.out hz h1 h2)
    generalize hn : lastV (l.filter (sameK key)) = n at *
    have HNE := hide hn
    have hnI : ¬ (n : Int) = 0 := by omega
    clear hn
    by_cases h1 : t < n
    · have h1I : (t : Int) < (n : Int) := by omega
      go_wp2
      go_ret
      exact ⟨rfl, HB2.out⟩
    have h1I : ¬ (t : Int) < (n : Int) := by omega
    by_cases h2 : n < low
    · have h2I : (n : Int) < (low : Int) := by omega
      go_wp2
      go_ret
      exact ⟨rfl, HB2.out⟩
    have h2I : ¬ (n : Int) < (low : Int) := by omega
    obtain ⟨s, b, q1, q2⟩ := HGL.out n h2 (Nat.lt_irrefl _)
    have HG1 := hide (get_any a len cap low n key l w2 HV2.out)
    rw [q1] at HG1
    have HG2 := hide (fun W hW => get_any a len cap low t key l W hW)
    rw [q2 t (by omega) h1] at HG2
    clear q1 q2 HGL HN
    go_wp2_with fail
    refine HG1.out.mono ?_
    rintro e w3 ⟨rfl, hb3⟩
    have HB3 := hide (HB2.out.trans (hb3.mono HB2.out.size))
    have HV3 := hide (HV2.out.below hb3)
    obtain ⟨e0, e1⟩ := cells2_of_blk ((hb3.block _ (heap_lt HT2.out)).trans HT2.out)
    clear hb3 HG1 HB2 HV2 HT2 d0 d1
    go_wp2_with fail
    refine (HG2.out w3 HV3.out).mono ?_
    rintro e w4 ⟨rfl, hb4⟩
    have HB4 := hide (HB3.out.trans (hb4.mono HB3.out.size))
    clear hb4 HG2 HB3 HV3
    go_wp2
    go_ret
    exact ⟨rfl, HB4.out⟩
end Go.Proofs.Ytpgdmkjfgmiacaa

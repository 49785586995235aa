/- mvcc.Sweep -/
import Derived.Test.YtlkmcbelmldleaaGreatVBr
namespace Go.Proofs.YtlkmcbelmldleaaGreat
open Go.RowKit Go.Shelf
set_option maxRecDepth 40000
attribute [local go_sem] Oper.semAt_some
/-- what is left of groups when they are swept -/
def sweepG (t : Nat) (G : List (Nat × List Vr)) : List Vr := G.flatMap (fun g => needL t g.2)
def sweepE (low : Nat) (l : List Vr) (t : Nat) : Int := if goodB low l = true then (if t < low then 9 else if 2305843009213693952 < t then 2 else 0) else 2
theorem old_len (t : Nat) : ∀ l : List Vr, (dropOld t l).length ≤ l.length
  | [] => Nat.le_refl _
  | [_] => Nat.le_refl _
  | x :: y :: r => by
    unfold dropOld
    split
    · have := old_len t (y :: r); simp only [List.length_cons] at *; omega
    · exact Nat.le_refl _
theorem need_len (t : Nat) (l : List Vr) : (needL t l).length ≤ l.length := by
  have := old_len t l
  unfold needL
  split
  · simp
  · rename_i x r e
    rw [e] at this
    split
    · simp at this; omega
    · exact this
theorem gps_flat : ∀ (f s : Nat) (l : List Vr), l.length ≤ f → (gpsOf s l).flatMap (fun g => g.2) = l := by
  intro f
  induction f with
  | zero => intro s l h; rw [List.eq_nil_of_length_eq_zero (Nat.le_zero.1 h)]; rfl
  | succ f ih =>
    intro s l h
    cases l with
    | nil => rfl
    | cons x r =>
      rw [gpsOf_cons, List.flatMap_cons, ih _ _ (by have := dropWhile_len (sameK x.key) r; simp at h; omega)]
      simp [List.takeWhile_append_dropWhile]
theorem sweepG_len (t : Nat) (G : List (Nat × List Vr)) : (sweepG t G).length ≤ (G.flatMap (fun g => g.2)).length := by
  unfold sweepG
  induction G with
  | nil => exact Nat.le_refl _
  | cons g r ih =>
    simp only [List.flatMap_cons, List.length_append]
    have := need_len t g.2
    omega
theorem sweepG_snoc (t : Nat) (G : List (Nat × List Vr)) (k : Nat) (x : Nat × List Vr) (h : G[k]? = some x) : sweepG t (G.take (k + 1)) = sweepG t (G.take k) ++ needL t x.2 := by
  rw [List.take_add_one, h]
  unfold sweepG
  rw [List.flatMap_append]
  simp
theorem vrc_one (l : List Vr) : ∀ u ∈ l.flatMap vrc, u.oneCell' = true := by
  intro u hu
  obtain ⟨x, _, hx⟩ := List.mem_flatMap.1 hu
  simp only [List.mem_cons, List.not_mem_nil, or_false] at hx
  rcases hx with rfl | rfl | rfl | rfl <;> rfl
/-- the cells of versions in memory, one behind the other -/
theorem IsV.news {w : World} {b off len cap : Nat} {l : List Vr} (h : IsV w (some ⟨b, off, none⟩) len cap l) : ∀ j u, (l.flatMap vrc)[j]? = some u → w.cell? ((⟨b, off, none⟩ : Addr).add j) = some u := by
  intro j u hj
  have hl : (l.flatMap vrc).length = l.length * 4 := by
    clear h hj
    induction l with
    | nil => rfl
    | cons x r ih => rw [List.flatMap_cons, List.length_append, ih]; simp; omega
  have hjl : j < l.length * 4 := by rw [← hl]; exact (List.getElem?_eq_some_iff.1 hj).1
  obtain ⟨i, k, rfl, hk⟩ : ∃ i k, j = i * 4 + k ∧ k < 4 := ⟨j / 4, j % 4, by omega, by omega⟩
  rw [flat_at vrc Vr0 4 (fun _ => rfl) l i k (by omega) hk] at hj
  obtain ⟨b', off', e, _, z0, z1, z2, z3⟩ := h.2.2.2 i (by have := h.1; omega)
  cases e
  rw [Addr.add_lit, ← Nat.add_assoc]
  match k, hk with
  | 0, _ => simp at hj; rw [← hj]; exact z0
  | 1, _ => simp at hj; rw [← hj]; exact z1
  | 2, _ => simp at hj; rw [← hj]; exact z2
  | 3, _ => simp at hj; rw [← hj]; exact z3
theorem frz {w : World} {g : Nat} {cs : Array Value} {t : TypeId} (h : w.heap[g]? = some (.cells cs t (0, 0))) (j : Nat) : w.frozen? ⟨g, j, none⟩ = false := by simp [World.frozen?, h]
theorem blk_set2 {w : World} {g j : Nat} {cs : Array Value} {t : TypeId} (h : w.heap[g]? = some (.cells cs t (0, 0))) (v : Value) : (w.setCell ⟨g, j, none⟩ v).heap[g]? = some (.cells (cs.setIfInBounds j v) t (0, 0)) := by
  simp [World.setCell, Array.getElem?_modify, h]
/-- a block of two cells -/
abbrev Two (w : World) (g : Nat) (a b : Value) : Prop := w.heap[g]? = some (.cells #[a, b] 31 (0, 0))
theorem two_set {w : World} {g : Nat} {a b : Value} (h : Two w g a b) (a' b' : Value) : Two ((w.setCell ⟨g, 0, none⟩ a').setCell ⟨g, 1, none⟩ b') g a' b' := by
  have := blk_set2 (j := 1) (blk_set2 (j := 0) h a') b'
  simpa using this
theorem res25 {fn : Func} {p u : Tmp} (h : fn.results = #[.cell p 31, .tmp u]) (tmps : Array Value) (W : World) (B : Nat) (a b : Value) (hb : Two W B a b) (hp : tmps.getD p undef = .pointer (some ⟨B, 0, none⟩)) :
    (results fn tmps).run Tryz.prog W = .ok (.tuple #[.agg #[a, b], tmps.getD u undef]) W := by
  rw [results_cell_tmp h, hp]
  have hl := run_loadVar_row (P := Tryz.prog) W B 31 31 _ (0, 0) _ hb Tryz.underlying31 rfl (by kernel_rfl)
  simp [asAddr, Result.andThen, hl]
theorem put_two {A : World} {l b : Nat} {o o' : Obj} {x y : Value} (ho : A.heap[l]? = some o) (hc : o.isCells = false) (hv : Two A b x y) : Two (A.putObj l o') b x y := by
  refine (World.putObj_heap_other ?_).trans hv
  rintro rfl
  rw [show A.heap[b]? = _ from hv] at ho
  cases ho
  cases hc
theorem turn_two {box : Option Nat} {A B : World} {b : Nat} {x y : Value} (h : Turn box A B) (hv : Two A b x y) (hne : box ≠ some b) : Two B b x y := by
  cases h with
  | lay o => exact (heap_alloc_old A o b (heap_lt hv)).trans hv
  | draw => exact hv
  | put c u hc => exact (Below.heap_setCell A ⟨c, 0, none⟩ u b (fun e => hne (by rw [hc]; exact congrArg some e.symm))).trans hv
set_option maxRecDepth 40000 in
set_option maxHeartbeats 2000000 in
theorem sweep_no (a : Option Addr) (len cap low t : Nat) (l : List Vr) (w : World) (hL : IsV w a len cap l) (hE : ¬ sweepE low l t = 0) : Calls Tryz.prog 90 #[.agg #[.slice a len cap, .int .u64 (low : Nat)], .int .u64 (t : Nat)] w fun e w' =>
    e = .returned (.tuple #[.agg #[.slice none 0 0, .int .u64 0], .int .i64 (sweepE low l t)]) ∧ Below w.heap.size w w' := by
  have HV := hide hL
  have HB5 : Hid (Below w.heap.size w (((w.alloc (.cells #[.slice a len cap, .int .u64 (low : Nat)] 31)).alloc (.cells #[.int .u64 (t : Nat)] 29)).alloc (.cells #[.slice none 0 0, .int .u64 0] 31))) := hide ((((Below.refl _ w).alloc (Nat.le_refl _) _).alloc (by simp) _).alloc (by simp; omega) _)
  have bV : Hid ((((w.alloc (.cells #[.slice a len cap, .int .u64 (low : Nat)] 31)).alloc (.cells #[.int .u64 (t : Nat)] 29)).alloc (.cells #[.slice none 0 0, .int .u64 0] 31)).heap[w.heap.size]? = some (.cells #[.slice a len cap, .int .u64 (low : Nat)] 31 (0, 0))) := hide ((heap_alloc_old _ _ _ (by simp; omega)).trans ((heap_alloc_old _ _ _ (by simp)).trans (heap_alloc_new _ _)))
  have bT := hide ((Boxed.new (w.alloc (.cells #[.slice a len cap, .int .u64 (low : Nat)] 31)) 29 (.int .u64 (t : Nat))).alloc (.cells #[.slice none 0 0, .int .u64 0] 31))
  have bR := hide (heap_alloc_new ((w.alloc (.cells #[.slice a len cap, .int .u64 (low : Nat)] 31)).alloc (.cells #[.int .u64 (t : Nat)] 29)) (.cells #[.slice none 0 0, .int .u64 0] 31))
  simp only [World.size_alloc] at bT bR
  go_enter Tryz.func90, Tryz.ntmps90
  go_wp2_with fail
  generalize (((w.alloc (.cells #[.slice a len cap, .int .u64 (low : Nat)] 31)).alloc (.cells #[.int .u64 (t : Nat)] 29)).alloc (.cells #[.slice none 0 0, .int .u64 0] 31)) = V at *
  refine (check_any a len cap low l V (HV.out.below HB5.out)).mono ?_
  rintro e w1 ⟨rfl, hb1⟩
  have HB1 := hide (HB5.out.trans (hb1.mono HB5.out.size))
  obtain ⟨v0, v1⟩ := cells2_of_blk ((hb1.block _ (heap_lt bV.out)).trans bV.out)
  obtain ⟨r0, r1⟩ := cells2_of_blk ((hb1.block _ (heap_lt bR.out)).trans bR.out)
  have cT := Boxed.cell ((hb1.block _ bT.out.lt).trans bT.out : Boxed w1 (w.heap.size + 1) 29 (.int .u64 (t : Nat)))
  have HR : Hid (w1.heap[w.heap.size + 1 + 1]? = some (.cells #[.slice none 0 0, .int .u64 0] 31 (0, 0))) := hide ((hb1.block _ (heap_lt bR.out)).trans bR.out)
  have f0 := frz HR.out 0
  have f1 := frz HR.out 1
  clear hb1 bV bT bR
  have HFIN : Hid (∀ (fn : Func) (tmps : Array Value) (e : Int), fn.results = #[.cell 4 31, .tmp 5] → tmps.getD 4 undef = .pointer (some ⟨w.heap.size + 1 + 1, 0, none⟩) → tmps.getD 5 undef = .int .i64 e → (results fn tmps).run Tryz.prog ((w1.setCell ⟨w.heap.size + 1 + 1, 0, none⟩ (.slice none 0 0)).setCell ⟨w.heap.size + 1 + 1, 1, none⟩ (.int .u64 0)) = .ok (.tuple #[.agg #[.slice none 0 0, .int .u64 0], .int .i64 e]) ((w1.setCell ⟨w.heap.size + 1 + 1, 0, none⟩ (.slice none 0 0)).setCell ⟨w.heap.size + 1 + 1, 1, none⟩ (.int .u64 0))) := hide (fun fn tmps e h1 h2 h3 => by
    rw [res25 h1 tmps _ _ _ _ (two_set HR.out _ _) h2, h3])
  have HBF : Hid (Below w.heap.size w ((w1.setCell ⟨w.heap.size + 1 + 1, 0, none⟩ (.slice none 0 0)).setCell ⟨w.heap.size + 1 + 1, 1, none⟩ (.int .u64 0))) := hide ((HB1.out.setCell (p := ⟨w.heap.size + 1 + 1, 0, none⟩) (by show _ ≤ w.heap.size + 1 + 1; omega) _).setCell (p := ⟨w.heap.size + 1 + 1, 1, none⟩) (by show _ ≤ w.heap.size + 1 + 1; omega) _)
  unfold sweepE at hE
  unfold checkE
  by_cases hg : goodB low l = true
  · rw [if_pos hg] at hE ⊢
    by_cases h1 : t < low
    · have HE : Hid (sweepE low l t = 9) := hide (by unfold sweepE; rw [if_pos hg, if_pos h1])
      have h1I : (t : Int) < (low : Int) := by omega
      clear hE hg
      go_wp2
      refine bodyPost_ret (HFIN.out Tryz.f90 _ 9 rfl rfl rfl) rfl ?_
      exact ⟨by rw [HE.out], HBF.out⟩
    · rw [if_neg h1] at hE
      have h2 : 2305843009213693952 < t := by
        by_cases h : 2305843009213693952 < t
        · exact h
        · rw [if_neg h] at hE; exact absurd rfl hE
      have HE : Hid (sweepE low l t = 2) := hide (by unfold sweepE; rw [if_pos hg, if_neg h1, if_pos h2])
      have h1I : ¬ (t : Int) < (low : Int) := by omega
      have h2I : (2305843009213693952 : Int) < (t : Int) := by omega
      clear hE hg
      go_wp2
      refine bodyPost_ret (HFIN.out Tryz.f90 _ 2 rfl rfl rfl) rfl ?_
      exact ⟨by rw [HE.out], HBF.out⟩
  · rw [if_neg hg]
    have HE : Hid (sweepE low l t = 2) := hide (by unfold sweepE; rw [if_neg hg])
    clear hE hg
    go_wp2
    refine bodyPost_ret (HFIN.out Tryz.f90 _ 2 rfl rfl rfl) rfl ?_
    exact ⟨by rw [HE.out], HBF.out⟩
theorem flat_len (l : List Vr) : (l.flatMap vrc).length = l.length * 4 := by
  induction l with
  | nil => rfl
  | cons x r ih => rw [List.flatMap_cons, List.length_append, ih]; simp; omega
/-- 's.List = append(s.List, ..)' where the row lies beyond all boxes -/
theorem appended_two {W w1 : World} {n₁ F e size : Nat} {v v' u : Value} {k m : Nat} {xs ys : List Value} (hv : Two W F v u) (hF : F < n₁) (hrow : W.ownsRow n₁ e size v k xs) (hn : n₁ ≤ W.heap.size)
    (hown' : w1.ownsRow n₁ e size v' m ys) (hgrow : W.grownBy w1 v.ownBlock) :
    Two w1 F v u ∧ Two (w1.setCell ⟨F, 0, none⟩ v') F v' u ∧ (w1.setCell ⟨F, 0, none⟩ v').ownsRow n₁ e size v' m ys ∧ KeepsOthers W (w1.setCell ⟨F, 0, none⟩ v') ∧ Below F W (w1.setCell ⟨F, 0, none⟩ v') ∧ Kp (fun b => decide (b = F)) n₁ W (w1.setCell ⟨F, 0, none⟩ v') := by
  have hne : ∀ b, b < n₁ → some b ≠ v.ownBlock := fun b hb e => by have := ownBlock_ge hrow e.symm; omega
  have h1 : Two w1 F v u := (hgrow.block F (by omega) (hne F hF)).trans hv
  refine ⟨h1, ?_, ownsRow_setCell_below hown' hF _, ?_, ?_, ⟨Nat.le_trans hgrow.size (KeepsOthers.setCell _ _ _).size, fun b hb hx => ?_⟩⟩
  · have := blk_set2 (j := 0) h1 v'
    simpa using this
  · refine (KeepsOthers.of_grownBy hgrow fun j o ej hj => ?_).trans (KeepsOthers.setCell _ _ _)
    rcases hrow.2 with ⟨rfl, _⟩ | ⟨g, cap, cur, rfl, _, hgb, _⟩
    · simp [Value.ownBlock] at ej
    · obtain rfl : g = j := by simpa [Value.ownBlock] using ej
      rw [hgb] at hj; cases hj; rfl
  · exact ((Below.refl F W).grown hgrow (by omega) fun j ej => by have := ownBlock_ge hrow ej; omega).setCell (p := ⟨F, 0, none⟩) (Nat.le_refl _) v'
  · have hx' : b ≠ F := by simpa using hx
    rw [Below.heap_setCell _ _ _ _ hx', hgrow.block b (by omega) (hne b hb)]
set_option maxRecDepth 40000 in
set_option maxHeartbeats 2000000 in
theorem sweep_yes (a : Option Addr) (len cap low t : Nat) (l : List Vr) (w : World) (hL : IsV w a len cap l) (hg : goodB low l = true) (h1 : ¬ t < low) (h2 : ¬ 2305843009213693952 < t) : Calls Tryz.prog 90 #[.agg #[.slice a len cap, .int .u64 (low : Nat)], .int .u64 (t : Nat)] w fun e w' =>
    ∃ a' c', e = .returned (.tuple #[.agg #[.slice a' (sweepG t (gpsOf 0 l)).length c', .int .u64 (t : Nat)], .int .i64 0]) ∧ IsV w' a' (sweepG t (gpsOf 0 l)).length c' (sweepG t (gpsOf 0 l)) ∧ Below w.heap.size w w' ∧ ∀ b off, a' = some ⟨b, off, none⟩ → w.heap.size ≤ b := by
  have HV := hide hL
  have HG := hide hg
  have HB5 : Hid (Below w.heap.size w (((w.alloc (.cells #[.slice a len cap, .int .u64 (low : Nat)] 31)).alloc (.cells #[.int .u64 (t : Nat)] 29)).alloc (.cells #[.slice none 0 0, .int .u64 0] 31))) := hide ((((Below.refl _ w).alloc (Nat.le_refl _) _).alloc (by simp) _).alloc (by simp; omega) _)
  have bV : Hid ((((w.alloc (.cells #[.slice a len cap, .int .u64 (low : Nat)] 31)).alloc (.cells #[.int .u64 (t : Nat)] 29)).alloc (.cells #[.slice none 0 0, .int .u64 0] 31)).heap[w.heap.size]? = some (.cells #[.slice a len cap, .int .u64 (low : Nat)] 31 (0, 0))) := hide ((heap_alloc_old _ _ _ (by simp; omega)).trans ((heap_alloc_old _ _ _ (by simp)).trans (heap_alloc_new _ _)))
  have bT := hide ((Boxed.new (w.alloc (.cells #[.slice a len cap, .int .u64 (low : Nat)] 31)) 29 (.int .u64 (t : Nat))).alloc (.cells #[.slice none 0 0, .int .u64 0] 31))
  have bR := hide (heap_alloc_new ((w.alloc (.cells #[.slice a len cap, .int .u64 (low : Nat)] 31)).alloc (.cells #[.int .u64 (t : Nat)] 29)) (.cells #[.slice none 0 0, .int .u64 0] 31))
  simp only [World.size_alloc] at bT bR
  obtain ⟨i0, hi, hz0, hz1, hz2⟩ := info_parts info51
  refine (callsIn_wide (n := 6)).1 ?_
  refine callsIn_of_wp_marks Tryz.func90 rfl trivial ?_ rfl
  simp only [Tryz.ntmps90, List.size_toArray, List.length_cons, List.length_nil, Nat.reduceAdd, Nat.reduceSub, Array.replicate_succ, Array.replicate_zero, List.push_toArray, List.append_toArray, List.nil_append, List.cons_append]
  gi_wp2_with fail
  generalize (((w.alloc (.cells #[.slice a len cap, .int .u64 (low : Nat)] 31)).alloc (.cells #[.int .u64 (t : Nat)] 29)).alloc (.cells #[.slice none 0 0, .int .u64 0] 31)) = V at *
  refine ⟨trivial, (callsIn_wide.2 (check_any a len cap low l V (HV.out.below HB5.out))).mono ?_⟩
  rintro e w1 ⟨rfl, hb1⟩
  rw [show checkE low l = 0 by unfold checkE; rw [if_pos hg]]
  have HB1 := hide (HB5.out.trans (hb1.mono HB5.out.size))
  obtain ⟨v0, v1⟩ := cells2_of_blk ((hb1.block _ (heap_lt bV.out)).trans bV.out)
  have HBT : Hid (Boxed w1 (w.heap.size + 1) 29 (.int .u64 (t : Nat))) := hide ((hb1.block _ bT.out.lt).trans bT.out)
  have cT := HBT.out.cell
  have HR : Hid (Two w1 (w.heap.size + 1 + 1) (.slice none 0 0) (.int .u64 0)) := hide ((hb1.block _ (heap_lt bR.out)).trans bR.out)
  have h1I : ¬ (t : Int) < (low : Int) := by omega
  have h2I : decide ((2305843009213693952 : Int) < (t : Int)) = false := decide_eq_false (by omega)
  have hlt : w.heap.size < w1.heap.size := heap_lt ((hb1.block _ (heap_lt bV.out)).trans bV.out)
  have v2 : (w1.alloc (.cells #[.slice none 0 0, .int .u64 (t : Nat)] 31)).cell? ⟨w.heap.size, 0, none⟩ = some (.slice a len cap) := (World.cell?_of_block (heap_alloc_old w1 _ _ hlt)).trans v0
  have HHL := hide h2
  clear hb1 bV bT bR hg HB5 h2
  generalize hN : w.heap.size = N at *
  have HN := hide hN
  clear hN
  gi_wp2_with fail
  have bS : Two (w1.alloc (.cells #[.slice none 0 0, .int .u64 (t : Nat)] 31)) w1.heap.size (.slice none 0 0) (.int .u64 (t : Nat)) := heap_alloc_new _ _
  have hBU : Below w1.heap.size w1 (w1.alloc (.cells #[.slice none 0 0, .int .u64 (t : Nat)] 31)) := (Below.refl _ w1).alloc (Nat.le_refl _) _
  have hUS : (w1.alloc (.cells #[.slice none 0 0, .int .u64 (t : Nat)] 31)).heap.size = w1.heap.size + 1 := by simp
  have HBU : Hid (Below N w (w1.alloc (.cells #[.slice none 0 0, .int .u64 (t : Nat)] 31))) := hide (HB1.out.trans (hBU.mono (by rw [← HN.out]; exact HB1.out.size)))
  have HBT1 : Hid (Boxed (w1.alloc (.cells #[.slice none 0 0, .int .u64 (t : Nat)] 31)) (N + 1) 29 (.int .u64 (t : Nat))) := hide (HBT.out.alloc _)
  have HR1 : Hid (Two (w1.alloc (.cells #[.slice none 0 0, .int .u64 (t : Nat)] 31)) (N + 1 + 1) (.slice none 0 0) (.int .u64 0)) := hide ((hBU.block _ (heap_lt HR.out)).trans HR.out)
  have HNM : Hid (N + 3 ≤ w1.heap.size) := hide (by have := heap_lt HR.out; omega)
  clear v0 v1 cT hBU HBT HR HB1 hlt v2
  generalize (w1.alloc (.cells #[.slice none 0 0, .int .u64 (t : Nat)] 31)) = U at *
  generalize w1.heap.size = M at *
  refine ⟨trivial, (byKey_in _ a len cap 117 #[] U).mono ?_⟩
  rintro e w2 ⟨rfl, rfl⟩
  have hb2 : Below U.heap.size U ((U.alloc (.cells #[.slice a len cap] 28)).alloc (.cells #[.func (.func 117) #[] #[]] 145)) := ((Below.refl _ U).alloc (Nat.le_refl _) _).alloc (by simp) _
  have HB2 : Hid (Below N w ((U.alloc (.cells #[.slice a len cap] 28)).alloc (.cells #[.func (.func 117) #[] #[]] 145))) := hide (HBU.out.trans (hb2.mono (by have := HNM.out; omega)))
  have HT2 : Hid (Boxed ((U.alloc (.cells #[.slice a len cap] 28)).alloc (.cells #[.func (.func 117) #[] #[]] 145)) (N + 1) 29 (.int .u64 (t : Nat))) := hide ((HBT1.out.alloc _).alloc _)
  have HR2 : Hid (Two ((U.alloc (.cells #[.slice a len cap] 28)).alloc (.cells #[.func (.func 117) #[] #[]] 145)) (N + 1 + 1) (.slice none 0 0) (.int .u64 0)) := hide ((hb2.block _ (heap_lt HR1.out)).trans HR1.out)
  have HF2 : Hid (Two ((U.alloc (.cells #[.slice a len cap] 28)).alloc (.cells #[.func (.func 117) #[] #[]] 145)) M (.slice none 0 0) (.int .u64 (t : Nat))) := hide ((hb2.block _ (heap_lt bS)).trans bS)
  have b3 := (Boxed.new U 28 (.slice a len cap)).alloc (.cells #[.func (.func 117) #[] #[]] 145)
  have b4 := Boxed.new (U.alloc (.cells #[.slice a len cap] 28)) 145 (.func (.func 117) #[] #[])
  have hS2 : ((U.alloc (.cells #[.slice a len cap] 28)).alloc (.cells #[.func (.func 117) #[] #[]] 145)).heap.size = M + 3 := by simp; omega
  simp only [World.size_alloc, hUS] at b3 b4
  rw [hUS]
  generalize ((U.alloc (.cells #[.slice a len cap] 28)).alloc (.cells #[.func (.func 117) #[] #[]] 145)) = V2 at *
  have H3 := hide b3
  have H4 := hide b4
  have HS2 := hide hS2
  clear hb2 b3 b4 hS2 hUS HBU HBT1 HR1 bS
  gi_wp2_with fail
  obtain ⟨b, off, hab⟩ : ∃ b off, 0 < len → a = some ⟨b, off, none⟩ ∧ b < N := by
    by_cases h : 0 < len
    · obtain ⟨b, off, e, hb, _⟩ := HV.out.2.2.2 0 h
      exact ⟨b, off, fun _ => ⟨e, by rw [← HN.out]; exact hb⟩⟩
    · exact ⟨0, 0, fun h' => absurd h' h⟩
  have HAB := hide hab
  clear hab
  have HXL : Hid (((gpsOf 0 l).flatMap (fun g => g.2)).length ≤ 4096) := hide (by
    rw [gps_flat l.length 0 l (Nat.le_refl _)]
    exact (goodB_iff.1 HG.out).1)
  generalize hxs : gpsOf 0 l = xs at *
  have HXS := hide hxs
  clear hxs
  refine wp_gives (gf := 112) (lb := #[.pointer (some ⟨M + 1, 0, none⟩), .pointer (some ⟨M + 1 + 1, 0, none⟩)]) (encs := encG b off cap) (xs := xs) (box := some (M + 1)) (w0 := V2) (Kp := Kp (fun b => decide (b = M)) (M + 3)) rfl (enters_of Tryz.func112 (by kernel_rfl) rfl)
    (by
      have := byKey_gives 5 (by omega) (M + 1) (M + 1 + 1) (M + 3) (fun b => decide (b = M)) a b off len cap l 117 #[] (fun _ => true) [] V2 H3.out H4.out (by omega) (by omega) (by rw [HS2.out]; exact Nat.le_refl _) (by simp) (by simp; omega) (by omega)
        (HV.out.below (by rw [HN.out]; exact HB2.out)) (fun h => ⟨(HAB.out h).1, by have := (HAB.out h).2; have := HNM.out; omega, by have := (HAB.out h).2; have := HNM.out; simp; omega, by have := (HAB.out h).2; have := HNM.out; omega⟩)
        (fun q hq => by cases hq)
        (enters_of Tryz.func117 (by kernel_rfl) rfl) (fun k W hc => every_any k W)
      rw [HXS.out, List.filter_eq_self.2 (fun _ _ => rfl)] at this
      exact this)
    (Below.refl _ _) (fun _ => rfl) Kp.trans (kp_put (by rw [HS2.out]; exact Nat.le_refl _))
    (fun k W => (∃ v, Two W M v (.int .u64 (t : Nat)) ∧ W.ownsRow (M + 3) 66 4 v (sweepG t (xs.take k)).length ((sweepG t (xs.take k)).flatMap vrc)) ∧ Boxed W (N + 1) 29 (.int .u64 (t : Nat)) ∧ Two W (N + 1 + 1) (.slice none 0 0) (.int .u64 0) ∧ Below N w W ∧ M + 3 ≤ W.heap.size)
    (fun _ _ _ => False)
    (fun k A B tu h => by
      obtain ⟨⟨v, h1, h2⟩, h3, h3', h4, h5⟩ := h
      refine ⟨⟨v, turn_two tu h1 (by simp), ?_⟩, turn_boxed tu h3 (by have := HNM.out; simp; omega), turn_two tu h3' (by have := HNM.out; simp; omega), turn_below tu h4 (by rw [HN.out]; exact Nat.le_refl _) (fun c hc => by cases hc; have := HNM.out; omega), Nat.le_trans h5 tu.others.size⟩
      cases tu with
      | lay o => exact h2.alloc o
      | draw => exact h2.drew
      | put c u hc => cases hc; exact ownsRow_setCell_below h2 (by show M + 1 < M + 3; omega) u)
    (fun c k A B tu h => h)
    (fun k A r o o' hr ho hc h => by
      obtain ⟨⟨v, h1, h2⟩, h3, h3', h4, h5⟩ := h
      exact ⟨⟨v, put_two ho hc h1, ownsRow_putObj h2 o' ho hc⟩, put_boxed ho hc h3, put_two ho hc h3', put_below (by have := HS2.out; have := HNM.out; omega) h4 (Array.getElem?_eq_some_iff.1 ho).1, by simpa using h5⟩)
    (fun c k A r o o' hr ho hc h => h)
    ⟨⟨_, HF2.out, World.ownsRow_nil _ _ _ _⟩, HT2.out, HR2.out, HB2.out, by rw [HS2.out]; exact Nat.le_refl _⟩
    (fun x a' _ => a' = { tmps := #[Value.agg #[Value.slice a len cap, Value.int IntKind.u64 ↑low], Value.int IntKind.u64 ↑t, Value.pointer (some { block := N, off := 0 }), Value.pointer (some { block := N + 1, off := 0 }), Value.pointer (some { block := N + 1 + 1, off := 0 }), Value.int IntKind.i64 0, Value.int IntKind.i64 0, Value.pointer (some { block := M, off := 0 }), Value.func (Fn.func 117) #[] #[], undef, .slice (some ⟨b, off + x.1 * 4, none⟩) x.2.length (cap - x.1), Value.agg #[Value.slice a len cap, Value.int IntKind.u64 ↑low], Value.int IntKind.i64 0, Value.bool false, Value.int IntKind.i64 0, Value.bool false, undef, undef, Value.bool false, Value.int IntKind.u64 ↑t, Value.pointer (some { block := N, off := 1 }), Value.int IntKind.u64 ↑low, Value.bool false, undef, Value.bool false, Value.int IntKind.u64 ↑t, Value.bool false, undef, Value.int IntKind.u64 ↑t, Value.agg #[Value.slice none 0 0, Value.int IntKind.u64 ↑t], Value.pointer (some { block := N, off := 0 }), Value.slice a len cap, Value.func (Fn.func 117) #[] #[], Value.func (Fn.func 112) #[] #[Value.pointer (some { block := M + 1, off := 0 }), Value.pointer (some { block := M + 1 + 1, off := 0 })], .string (hd x).key, .slice (some ⟨b, off + x.1 * 4, none⟩) x.2.length (cap - x.1), undef, undef, undef, undef, undef, undef, undef, undef], defers := [] })
    (fun x a' A r o o' hr ho hc h => h)
    ?assign ?body ?all ?left
  case assign =>
    rintro lo k ⟨s, q⟩ W K hx hI hK
    have HK := hide (fun a' => hK a' W (KeepsOthers.refl _) ⟨Nat.le_refl _, fun _ _ _ => rfl⟩ hI)
    clear hK hI hx
    gi_wp2
    refine HK.out _ ?_
    simp
  case body =>
    rintro lo k ⟨s, q⟩ a' W hx ⟨⟨v, bF, hrow⟩, bT, bR, hB, hsz⟩ rfl
    have HX := hide hx
    have HBF := hide bF
    have HROW := hide hrow
    have HBT := hide bT
    have HBR := hide bR
    have HB := hide hB
    have HSZ := hide hsz
    have hlies := gps_lies l l.length 0 (by simp) (Nat.zero_le _) (s, q) (by
      rw [List.drop_zero, HXS.out]
      exact List.mem_of_getElem? hx)
    obtain ⟨e1, e2, e3⟩ := hlies
    dsimp only at e1 e2 e3
    have hlen : 0 < len := by rw [← HV.out.1]; omega
    have hVW : IsV W a len cap l := HV.out.below (by rw [HN.out]; exact hB)
    rw [(HAB.out hlen).1] at hVW
    have hVS := hVW.sub s q.length (by rw [← HV.out.1]; exact e2)
    rw [← e1] at hVS
    have HSN := hide (sweepG_snoc t xs k (s, q) hx)
    have HLE : Hid ((sweepG t (xs.take k)).length + (needL t q).length ≤ 4096) := hide (by
      have h1 := sweepG_len t (xs.take (k + 1))
      rw [sweepG_snoc t xs k (s, q) hx, List.length_append] at h1
      dsimp only at h1
      have h2 : ((xs.take (k + 1)).flatMap (fun g => g.2)).length ≤ (xs.flatMap (fun g => g.2)).length := by
        conv => rhs; rw [← List.take_append_drop (k + 1) xs]
        rw [List.flatMap_append, List.length_append]
        omega
      have h3 := HXL.out
      omega)
    have hVN := hVS
    dsimp only
    dsimp only at HSN
    generalize cap - s = cs at *
    generalize off + s * 4 = os at *
    have HND := hide (fun W' (h : W' = W ∨ W' = W.drew) => needed_any b os q.length cs t q W' (by rcases h with rfl | rfl <;> exact hVS) e3)
    have cT := bT.cell
    obtain ⟨av, cv, rfl⟩ := own_form hrow
    obtain ⟨cF, cF1⟩ := cells2_of_blk bF
    generalize (sweepG t (xs.take k)) = G at *
    have hmix := mixed
    clear hx hB hVW hVS hVN e1 e2 e3 hlen bF bT bR hrow hsz
    gi_wp2_with fail
    refine wp_round_last 7 (fun W' : World => W'.cell? ⟨M, 0, none⟩ = some (.slice av G.length cv) ∧ W'.cell? ⟨N + 1, 0, none⟩ = some (.int .u64 (t : Nat))) hmix (by kernel_rfl) (fun ⟨_, _, h⟩ => h) ⟨cF, cT⟩ (fun hHeld => ?_)
    refine wpAnyL_take (i := 0) (v := ?v0s) rfl (by kernel_rfl) (fun _ _ _ h => h) (by assumption) (by rfl) ?hy0s ?hn0s
    case hy0s => (intro w hSw; (try dsimp only at hSw); skip; go_simp; try with_reducible rfl)
    try simp only [Act.put]
    refine wpAnyL_take (i := 1) (v := ?v1s) rfl (by kernel_rfl) (fun _ _ _ h => h) (by assumption) (by rfl) ?hy1s ?hn1s
    case hy1s => (intro w hSw; (try dsimp only at hSw); skip; go_simp; try with_reducible rfl)
    try simp only [Act.put]
    refine wpAnyL_take (i := 2) (v := ?v2s) rfl (by kernel_rfl) (fun _ _ _ h => h) (by assumption) (by rfl) ?hy2s ?hn2s
    case hy2s => (intro w hSw; (try dsimp only at hSw); skip; go_simp; try with_reducible rfl)
    try simp only [Act.put]
    refine wpAnyL_take (i := 3) (v := ?v3s) rfl (by kernel_rfl) (fun _ _ _ h => h) (by assumption) (by rfl) ?hy3s ?hn3s
    case hy3s => (intro w hSw; (try dsimp only at hSw); skip; go_simp; try with_reducible rfl)
    try simp only [Act.put]
    refine wpAnyL_one (i := 4) rfl (by kernel_rfl) (fun K hK => ?_)
    go_simp
    refine (HND.out W.drew (.inr rfl)).mono ?_
    rintro e w2 ⟨rfl, o', c', rfl, hVO⟩
    obtain ⟨v', w3, hrun, hown', hgrow, hnil⟩ := run_append_own (P := Tryz.prog) (w := W.drew) (M + 3) 28 28 66 i0 _ 4 48 Tryz.underlying28 hi hz0 hz1 hz2 rfl (by decide) (.slice av G.length cv) G.length _ HROW.out.drew ⟨b, o', none⟩ (needL t q).length c' ((needL t q).flatMap vrc) (flat_len _) hVO.news (vrc_one _) (by have := HLE.out; show _ ≤ 9223372036854775807; omega) (by have := HLE.out; omega) HSZ.out
    obtain ⟨a4, c4, rfl⟩ := own_form hown'
    have HAP := hide (appended_two (W := W.drew) HBF.out (by omega) HROW.out.drew HSZ.out hown' hgrow)
    have HT3 : Hid (Boxed w3 (N + 1) 29 (.int .u64 (t : Nat))) := hide ((hgrow.block _ (by have := HBT.out.lt; exact this) (fun e => by have := ownBlock_ge HROW.out e.symm; have := HNM.out; omega)).trans HBT.out)
    obtain ⟨k0, k1⟩ := cells2_of_blk HAP.out.1
    have f0 := frz HAP.out.1 0
    clear hown' hgrow hnil hVO k1
    refine hK.out _ _ (hHeld) (fun hHeld => ?_)
    clear hK K
    try simp only [Act.put]
    refine wpAnyL_one (i := 5) rfl (by kernel_rfl) (fun K hK => ?_)
    refine wp_append_eq _ _ 28 rfl rfl rfl hrun ?_
    refine hK.out _ _ (⟨k0, HT3.out.cell⟩) (fun hHeld => ?_)
    clear hK K
    try simp only [Act.put]
    refine wpAnyL_one (i := 6) rfl (by kernel_rfl) (fun K hK => ?_)
    go_simp
    refine hK.out _ _ (⟨k0, HT3.out.cell⟩) (fun hHeld => ?_)
    clear hK K
    try simp only [Act.put]
    refine wpAnyL_last rfl (by kernel_rfl) (by kernel_rfl) (fun K hK => ?_)
    go_simp
    refine hK.out _ _ ?_
    clear hK K hHeld
    obtain ⟨g1, g2, g3, g4, g5, g6⟩ := HAP.out
    have hNM := HNM.out
    refine ⟨(KeepsOthers.drew W).trans g4, Kp.trans (B := W.drew) ⟨Nat.le_refl _, fun _ _ _ => rfl⟩ g6, ⟨⟨_, g2, ?_⟩, (g5.block _ (by omega)).trans HBT.out, (g5.block _ (by omega)).trans HBR.out, HB.out.trans (((Below.refl _ W).drew).trans (g5.mono (by omega))), Nat.le_trans HSZ.out g4.size⟩⟩
    rw [HSN.out, List.flatMap_append, List.length_append]
    exact g3
  case all =>
    rintro D W hD hK ⟨⟨v, bF, hrow⟩, bT, bR, hB, hsz⟩
    rw [List.take_length] at hrow
    obtain ⟨av, cv, rfl⟩ := own_form hrow
    obtain ⟨cF, cF1⟩ := cells2_of_blk bF
    obtain ⟨cR, cR1⟩ := cells2_of_blk bR
    have f0 := frz bR 0
    have f1 := frz bR 1
    have HB := hide hB
    have HROW := hide hrow
    have HBR := hide bR
    have HND : Hid (N ≤ D) := hide (by have := HS2.out; have := HNM.out; omega)
    have HNE : Hid (∀ v u, ((W.setCell ⟨N + 1 + 1, 0, none⟩ v).setCell ⟨N + 1 + 1, 1, none⟩ u).ownsRow (M + 3) 66 4 (.slice av (sweepG t xs).length cv) (sweepG t xs).length ((sweepG t xs).flatMap vrc)) := hide (fun v u => ownsRow_setCell_below (ownsRow_setCell_below hrow (by have := HNM.out; show N + 1 + 1 < M + 3; omega) v) (by have := HNM.out; show N + 1 + 1 < M + 3; omega) u)
    clear hB hrow bT bF bR
    gi_wp2
    have hK2 := ((KeepsOthers.setCell W ⟨N + 1 + 1, 0, none⟩ (.slice av (sweepG t xs).length cv)).trans (KeepsOthers.setCell _ ⟨N + 1 + 1, 1, none⟩ (.int .u64 (t : Nat)))).same _ _ hK rfl
    refine ⟨by simp, .inl ⟨_, _, rfl, run_takeDeferred hK2, ?_⟩⟩
    obtain ⟨a', c', he, hI, hfr⟩ := own_isV rfl (ownsRow_putObj (HNE.out _ _) (.deferred none) hK2 rfl)
    cases he
    have hT := put_two (o' := .deferred none) hK2 rfl (two_set HBR.out (.slice av (sweepG t xs).length cv) (.int .u64 (t : Nat)))
    refine ⟨.tuple #[.agg #[.slice av (sweepG t xs).length cv, .int .u64 (t : Nat)], .int .i64 0], res25 (p := 4) (u := 5) rfl _ _ _ _ _ hT rfl, ?_⟩
    rw [HXS.out]
    exact ⟨av, cv, rfl, hI, by rw [HN.out]; exact put_below HND.out ((HB.out.setCell (p := ⟨N + 1 + 1, 0, none⟩) (by show N ≤ N + 1 + 1; omega) _).setCell (p := ⟨N + 1 + 1, 1, none⟩) (by show N ≤ N + 1 + 1; omega) _) (Array.getElem?_eq_some_iff.1 hK2).1, fun b off e => by have := hfr b off e; have := HNM.out; rw [HN.out]; omega⟩
  case left =>
    rintro D c k W hD hK hk h
    exact h.elim
/-- what Sweep answers -/
def sweepR (low : Nat) (l : List Vr) (t : Nat) : List Vr × Nat × Int := if sweepE low l t = 0 then (sweepG t (gpsOf 0 l), t, 0) else ([], 0, sweepE low l t)
theorem sweep_any (a : Option Addr) (len cap low t : Nat) (l : List Vr) (w : World) (hL : IsV w a len cap l) : Calls Tryz.prog 90 #[.agg #[.slice a len cap, .int .u64 (low : Nat)], .int .u64 (t : Nat)] w fun e w' =>
    ∃ a' c', e = .returned (.tuple #[.agg #[.slice a' (sweepR low l t).1.length c', .int .u64 ((sweepR low l t).2.1 : Nat)], .int .i64 (sweepR low l t).2.2]) ∧ IsV w' a' (sweepR low l t).1.length c' (sweepR low l t).1 ∧ Below w.heap.size w w' ∧ ∀ b off, a' = some ⟨b, off, none⟩ → w.heap.size ≤ b := by
  unfold sweepR
  by_cases hE : sweepE low l t = 0
  · simp only [if_pos hE]
    unfold sweepE at hE
    by_cases hg : goodB low l = true
    · rw [if_pos hg] at hE
      by_cases h1 : t < low
      · rw [if_pos h1] at hE; cases hE
      · rw [if_neg h1] at hE
        by_cases h2 : 2305843009213693952 < t
        · rw [if_pos h2] at hE; cases hE
        · exact sweep_yes a len cap low t l w hL hg h1 h2
    · rw [if_neg hg] at hE; cases hE
  · simp only [if_neg hE]
    refine (sweep_no a len cap low t l w hL hE).mono ?_
    rintro e w' ⟨rfl, hb⟩
    exact ⟨none, 0, rfl, ⟨rfl, Nat.le_refl _, Nat.zero_le _, fun i hi => absurd hi (Nat.not_lt_zero _)⟩, hb, by intro b off h; cases h⟩
end Go.Proofs.YtlkmcbelmldleaaGreat

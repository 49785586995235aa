/- slices.Insert of one, slices.Delete of one, over a list of slices of its own -/
import Derived.Test.YtebikoekpbnpbaaNH
import Derived.Shelf.Spec.SlicesInsert
import Derived.Lib.AppendZerosOnto
import Derived.Laws.NewBlocks
import Derived.Laws.CopyRow
import Derived.Deep.RegionLaw
import Derived.Lib.SliceRun
namespace Go.Proofs.Ytebikoekpbnpbaa
open Go.RowKit Go.Lib Cod
set_option maxRecDepth 100000
set_option linter.unusedVariables false
set_option linter.unusedSimpArgs false
theorem size26 : (Try.prog.info? 26).map (·.size) = some 1 := by kernel_rfl
theorem below_row {B : Nat} {a w : World} (h : Below B a w) {g : Nat} (hg : B ≤ g) (cs : Array Value) : Below B a (w.setRow g cs) := by
  refine ⟨h.os, h.tape, h.output, by rw [setRow_size]; exact h.size, fun b hb => ?_⟩
  rw [← h.block b hb]
  have hne : g ≠ b := by omega
  simp [World.setRow, Array.getElem?_modify, hne]
abbrev zL (n : Nat) : Array Value := Builtin.zeroCells (Value.slice none 0 0).cells n
theorem zL_is (n : Nat) : zL n = (List.replicate n (Value.slice none 0 0)).toArray := by
  unfold zL
  apply Array.ext'
  simp only [Builtin.zeroCells, Value.cells]
  apply List.ext_getElem?
  intro j
  by_cases h : j < n <;> simp [h, Nat.mod_one, List.getElem?_replicate]
set_option maxHeartbeats 4000000 in
/-- at the end -/
theorem insE_any (g n q : Nat) (sv : List Value) (x : Value) (w : World) (hr : w.heap[g]? = some (.cells sv.toArray 26 (0, 0))) (hn : sv.length = n) (hb : n ≤ 2000000) (hq : w.cell? ⟨q, 0, none⟩ = some x) (hx : x.oneCell' = true) :
    Calls Try.prog 51 #[.slice (some ⟨g, 0, none⟩) n n, .int .i64 (n : Nat), .slice (some ⟨q, 0, none⟩) 1 1] w fun e w' =>
      e = .returned (.slice (some ⟨w.heap.size, 0, none⟩) (n + 1) (grownCap w (n + 1) n 26)) ∧ w' = w.drew.alloc (.cells ((sv ++ [x]).toArray ++ zL (grownCap w (n + 1) n 26 - (n + 1))) 26) := by
  obtain ⟨i0, hi0, hz0, hzs, hzb⟩ := info_parts info26
  have hsrc : Src Try.prog i0.size 22 (.slice (some ⟨q, 0, none⟩) 1 1) 1 [x] w := by
    rw [hzs]
    exact Src.ofSlice w Try.underlying22 ⟨q, 0, none⟩ 1 1 [x] rfl (fun j u hj => by
      cases j with
      | zero => cases hj; rw [Addr.add_lit]; exact hq
      | succ j => simp at hj) (fun v hv => by rw [List.mem_singleton.1 hv]; exact hx)
  have hold : (Builtin.firstCells i0.size n (.slice (some ⟨g, 0, none⟩) n n)).run Try.prog w.drew = .ok sv.toArray w.drew := by
    rw [hzs]
    exact run_firstCells_some w.drew 1 n ⟨g, 0, none⟩ n n sv (by omega) (fun j v hj => by rw [Addr.add_lit, Nat.zero_add]; exact cell_blkN (w := w) hr (by rw [List.getElem?_toArray]; exact hj))
  have hrun : ∀ ty, (Builtin.append_ #[22, 22] ty #[.slice (some ⟨g, 0, none⟩) n n, .slice (some ⟨q, 0, none⟩) 1 1]).run Try.prog w = _ := fun ty =>
    run_append_grow_src w 22 22 ty 26 i0 _ Try.underlying22 hi0 hz0 (some ⟨g, 0, none⟩) n n sv hold _ 1 [x] hsrc (by omega) (by omega) (by rw [hzb]; exact growslice_fits (by omega) (by omega))
  clear hr hq
  go_enter Try.func51, Try.ntmps51
  go_wp2_with (at_builtin; refine Lib.wpList_append_run _ rfl _ _ _ _ rfl _ _ rfl rfl _ _ (hrun _) ?_)
  all_goals (go_ret; exact ⟨rfl, rfl⟩)
set_option maxHeartbeats 4000000 in
/-- ahead of another -/
theorem insM_any (g n i q : Nat) (sv : List Value) (x : Value) (w : World) (hr : w.heap[g]? = some (.cells sv.toArray 26 (0, 0))) (hn : sv.length = n) (hi : i < n) (hb : n ≤ 2000000) (hq : w.cell? ⟨q, 0, none⟩ = some x) (hx : x.oneCell' = true) (h1c : ∀ v ∈ sv, v.oneCell' = true) :
    Calls Try.prog 51 #[.slice (some ⟨g, 0, none⟩) n n, .int .i64 (i : Nat), .slice (some ⟨q, 0, none⟩) 1 1] w fun e w' => e = .returned (.slice (some ⟨w.heap.size, 0, none⟩) (n + 1) (grownCap w (n + 1) n 26)) ∧
      ∃ xs, xs.length = grownCap w (n + 1) n 26 - (n + 1) ∧ w'.heap[w.heap.size]? = some (.cells (sv.take i ++ x :: sv.drop i ++ xs).toArray 26 (0, 0)) ∧ Below w.heap.size w w' := by
  obtain ⟨i0, hi0, hz0, hzs, hzb⟩ := info_parts info26
  have hz2 : ¬ ((i : Int) = (n : Int)) := by omega
  have hbw : g < w.heap.size := heap_ltN hr
  have hvw : q < w.heap.size := block_lt_of_cell hq
  have hcs : ∀ j v, sv[j]? = some v → w.cell? ⟨g, 0 + j, none⟩ = some v := fun j v hj => by rw [Nat.zero_add]; exact cell_blkN hr (by rw [List.getElem?_toArray]; exact hj)
  have hkk : (n : Int) + 1 - (i : Int) = ((n + 1 - i : Nat) : Int) := by omega
  have hik : i + (n + 1 - i) = n + 1 := by omega
  have hold : (Builtin.firstCells i0.size i (.slice (some ⟨g, 0, none⟩) i n)).run Try.prog w.drew = .ok (sv.take i).toArray w.drew := by
    rw [hzs]
    exact run_firstCells_some w.drew 1 i ⟨g, 0, none⟩ i n (sv.take i) (by rw [List.length_take]; omega) (fun j v hj => by
      rw [Addr.add_lit]
      rw [List.getElem?_take] at hj
      split at hj
      · exact hcs j v hj
      · cases hj)
  have hrz : ∀ ty, (Builtin.append_ #[22, 3] ty #[.slice (some ⟨g, 0, none⟩) i n, .int .i64 ((n : Int) + 1 - (i : Int))]).run Try.prog w =
      .ok (.slice (some ⟨w.heap.size, 0, none⟩) (n + 1) (grownCap w (n + 1) n 26)) (w.drew.alloc (.cells ((sv.take i).toArray ++ zL (n + 1 - i) ++ zL (grownCap w (n + 1) n 26 - (n + 1))) 26)) := fun ty => by
    have h := Lib.run_append_grow_zeros w 22 3 ty 26 i0 _ .i64 .i64 Try.underlying22 Try.underlying3 hi0 hz0 (some ⟨g, 0, none⟩) i n (sv.take i) hold (n + 1 - i) (by omega) (by omega) (by omega) (by omega) (by rw [hzb]; omega) (by rw [hzb, hik]; exact growslice_fits (by omega) (by omega))
    rw [hik] at h
    rw [hkk]
    exact h
  obtain ⟨G, hG⟩ : ∃ G, G = grownCap w (n + 1) n 26 := ⟨_, rfl⟩
  obtain ⟨ROW, hROW⟩ : ∃ ROW : Array Value, ROW = (sv.take i).toArray ++ zL (n + 1 - i) ++ zL (G - (n + 1)) := ⟨_, rfl⟩
  rw [← hG] at hrz ⊢
  rw [← hROW] at hrz
  have hRi : ROW = (sv.take i ++ List.replicate (n + 1 - i) (Value.slice none 0 0) ++ List.replicate (G - (n + 1)) (Value.slice none 0 0)).toArray := by
    rw [hROW, zL_is, zL_is]
    simp
  have hti : (sv.take i).length = i := by rw [List.length_take]; omega
  have hGn : n + 1 ≤ G := by rw [hG]; exact grownCap_ge w _ _ _
  have hG63 : G ≤ 9223372036854775807 := by
    have := grownCap_le_maxLen w (n + 1) n 26 (by unfold maxLen; omega)
    rw [← hG] at this
    unfold maxLen at this
    omega
  obtain ⟨R1, hR1⟩ : ∃ R1 : Array Value, R1 = (ROW.toList.take i ++ [x] ++ ROW.toList.drop (i + [x].length)).toArray := ⟨_, rfl⟩
  have hdl : (sv.drop i).length = n - i := by rw [List.length_drop, hn]
  obtain ⟨R2, hR2⟩ : ∃ R2 : Array Value, R2 = (R1.toList.take (i + 1) ++ sv.drop i ++ R1.toList.drop (i + 1 + (sv.drop i).length)).toArray := ⟨_, rfl⟩
  have hRs : ROW.size = G := by rw [hRi]; simp; omega
  have hR1s : R1.size = G := by rw [hR1]; simp [hRs]; omega
  have hR2i : R2 = (sv.take i ++ x :: sv.drop i ++ List.replicate (G - (n + 1)) (Value.slice none 0 0)).toArray := by
    have e1 : ROW.toList.take i = sv.take i := by
      rw [hRi, List.append_assoc, List.take_append_of_le_length (by rw [hti]; exact Nat.le_refl _), List.take_of_length_le (by rw [hti]; exact Nat.le_refl _)]
    have e2 : R1.toList.take (i + 1) = sv.take i ++ [x] := by
      rw [hR1, e1]
      rw [List.take_append_of_le_length (by simp [hti]), List.take_of_length_le (by simp [hti])]
    have e3 : R1.toList.drop (i + 1 + (n - i)) = List.replicate (G - (n + 1)) (Value.slice none 0 0) := by
      have e4 : ROW.toList.drop (n + 1) = List.replicate (G - (n + 1)) (Value.slice none 0 0) := by
        rw [hRi]
        refine (List.drop_append ..).trans ?_
        rw [List.drop_of_length_le (by simp [hti]; omega)]
        simp only [List.length_append, hti, List.length_replicate, hik, Nat.sub_self, List.drop_zero, List.nil_append]
      rw [hR1, e1]
      refine (List.drop_append ..).trans ?_
      rw [List.drop_of_length_le (by simp [hti]), List.nil_append, List.drop_drop]
      rw [← e4]
      congr 1
      simp [hti]
      omega
    rw [hR2, e2, hdl, e3]
    simp
  obtain ⟨W1, hW1⟩ : ∃ W1, W1 = w.drew.alloc (.cells ROW 26) := ⟨_, rfl⟩
  have hN : W1.heap[w.heap.size]? = some (.cells ROW 26 (0, 0)) := by rw [hW1]; exact heap_alloc_new _ _
  rw [← hW1] at hrz
  have hOb : ∀ b j v, b < w.heap.size → w.cell? ⟨b, j, none⟩ = some v → W1.cell? ⟨b, j, none⟩ = some v := fun b j v hb h => by rw [hW1, World.cell?_alloc_past (w := w.drew) _ b j hb]; exact h
  have hcpA : ∀ (W : World), W.heap = W1.heap → ∀ ty dc, (Builtin.copy_ #[22, 22] ty #[.slice (some ⟨w.heap.size, i, none⟩) (n + 1 - i) dc, .slice (some ⟨q, 0, none⟩) 1 1]).run Try.prog W = .ok (goInt 1) (W.setRow w.heap.size R1) := fun W hW ty dc => by
    rw [hR1]
    exact run_copy_row Try.prog W 22 22 ty 26 w.heap.size i (n + 1 - i) dc ⟨q, 0, none⟩ 1 1 ROW 26 [x] Try.underlying22 size26 (by rw [hW]; exact hN) (by simp only [List.length_singleton, Nat.min_def]; split <;> omega)
      (fun j v hj => by
        have : w.cell? ⟨q, j, none⟩ = some v := by
          cases j with
          | zero => cases hj; exact hq
          | succ j => simp at hj
        rw [Addr.add_lit, Nat.zero_add, World.cell?_of_block (w := W1) (by rw [hW])]
        exact hOb q j v hvw this)
      (by simp [hRs]; omega) (fun v hv => by rw [List.mem_singleton.1 hv]; exact hx)
  have hcpB : ∀ (W : World), W.heap = (W1.setRow w.heap.size R1).heap → ∀ ty dc sc, (Builtin.copy_ #[22, 22] ty #[.slice (some ⟨w.heap.size, i + 1, none⟩) (n - i) dc, .slice (some ⟨g, i, none⟩) (n - i) sc]).run Try.prog W = .ok (goInt (n - i : Nat)) (W.setRow w.heap.size R2) := fun W hW ty dc sc => by
    rw [hR2, ← hdl]
    have := run_copy_row Try.prog W 22 22 ty 26 w.heap.size (i + 1) (n - i) dc ⟨g, i, none⟩ (n - i) sc R1 26 (sv.drop i) Try.underlying22 size26 (by rw [hW]; exact setRow_heap _ _ _ _ _ _ hN) (by rw [hdl]; simp only [Nat.min_def]; split <;> omega)
      (fun j v hj => by
        rw [Addr.add_lit, World.cell?_of_block (w := W1) (by rw [hW]; simp [World.setRow, Array.getElem?_modify, show w.heap.size ≠ g by omega])]
        exact hOb g _ v hbw (by have := hcs (i + j) v (by rwa [List.getElem?_drop] at hj); rwa [Nat.zero_add] at this))
      (by rw [hdl, hR1s]; omega) (fun v hv => h1c v (List.mem_of_mem_drop hv))
    rw [hdl] at this ⊢
    exact this
  have hw1 : IntKind.i64.wrap ((i : Int) + 1) = (i : Int) + 1 := wrapN (by omega) (by omega)
  have hw2 : IntKind.i64.wrap ((n : Int) + 1) = (n : Int) + 1 := wrapN (by omega) (by omega)
  have hGi : ¬ (G = i) := by omega
  have hGim : ¬ (G = i + 1) := by omega
  have hci : ¬ (n = i) := by omega
  have hin : i ≤ n := by omega
  have hb1 : (0 : Int) ≤ (i : Int) + 1 := by omega
  have htn : ((i : Int) + 1).toNat = i + 1 := by omega
  have hb3 : (i : Int) ≤ (n : Int) := by omega
  have HB : Hid (Below w.heap.size w W1) := hide (by rw [hW1]; exact ((Below.refl _ w).drew).alloc (Nat.le_refl _) _)
  have HN := hide hN
  have HR2 := hide hR2i
  clear hkk hik hold hROW hG hRi hR1 hR2 hRs hR1s hR2i hr hq hcs hOb hW1 hN hdl hti
  have mixed : Try.prog.follows .mixedOrders = true := by kernel_rfl
  go_enter Try.func51, Try.ntmps51
  go_wp2_with (first
    | (at_builtin; refine Lib.wpList_append_run _ rfl _ _ _ _ rfl _ _ rfl rfl _ _ (hrz _) ?_)
    | (at_builtin; refine wpList_copy_runI _ rfl _ _ 22 22 rfl _ _ rfl rfl (hcpA _ rfl _ _) ?_))
  have hB9 := hcpB (W1.setRow w.heap.size R1).drew rfl 3 (G - (i + 1)) (n - i)
  go_region
  go_wp2
  go_ret
  refine ⟨rfl, List.replicate (G - (n + 1)) (Value.slice none 0 0), List.length_replicate, ?_, ?_⟩
  · rw [← HR2.out]
    exact setRow_heap _ _ _ _ _ _ (setRow_heap _ _ _ _ _ _ HN.out)
  · exact below_row ((below_row HB.out (Nat.le_refl _) _).drew) (Nat.le_refl _) _
/-- slices.Insert of one into a list that is full -/
theorem ins_any (g n i q : Nat) (sv : List Value) (x : Value) (w : World) (hr : w.heap[g]? = some (.cells sv.toArray 26 (0, 0))) (hn : sv.length = n) (hi : i ≤ n) (hb : n ≤ 2000000) (hq : w.cell? ⟨q, 0, none⟩ = some x) (hx : x.oneCell' = true) (h1c : ∀ v ∈ sv, v.oneCell' = true) :
    Calls Try.prog 51 #[.slice (some ⟨g, 0, none⟩) n n, .int .i64 (i : Nat), .slice (some ⟨q, 0, none⟩) 1 1] w fun e w' => ∃ c, e = .returned (.slice (some ⟨w.heap.size, 0, none⟩) (n + 1) c) ∧ n + 1 ≤ c ∧ c ≤ maxLen ∧
      (∃ xs, xs.length = c - (n + 1) ∧ w'.heap[w.heap.size]? = some (.cells (sv.take i ++ x :: sv.drop i ++ xs).toArray 26 (0, 0))) ∧ Below w.heap.size w w' := by
  have hc1 := grownCap_ge w (n + 1) n 26
  have hc2 := grownCap_le_maxLen w (n + 1) n 26 (by unfold maxLen; omega)
  by_cases h : i = n
  · subst h
    refine (insE_any g i q sv x w hr hn hb hq hx).mono ?_
    rintro e w' ⟨rfl, rfl⟩
    refine ⟨_, rfl, hc1, hc2, ⟨List.replicate (grownCap w (i + 1) i 26 - (i + 1)) (Value.slice none 0 0), List.length_replicate, ?_⟩, ((Below.refl _ w).drew).alloc (Nat.le_refl _) _⟩
    refine (heap_alloc_new _ _).trans ?_
    rw [zL_is, List.take_of_length_le (by omega), List.drop_of_length_le (by omega)]
    simp
  · refine (insM_any g n i q sv x w hr hn (by omega) hb hq hx h1c).mono ?_
    rintro e w' ⟨rfl, xs, h1, h2, h3⟩
    exact ⟨_, rfl, hc1, hc2, ⟨xs, h1, h2⟩, h3⟩
end Go.Proofs.Ytebikoekpbnpbaa

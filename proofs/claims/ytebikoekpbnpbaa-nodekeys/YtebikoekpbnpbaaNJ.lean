/- slices.Delete of one, over a list of slices of its own -/
import Derived.Test.YtebikoekpbnpbaaNI
namespace Go.Proofs.Ytebikoekpbnpbaa
open Go.RowKit Go.Lib Cod
set_option maxRecDepth 100000
set_option linter.unusedVariables false
set_option linter.unusedSimpArgs false
theorem setCells_blk {g : Nat} {t : TypeId} : ∀ (vs : List Value) (o : Nat) (w : World) (cs : Array Value), w.heap[g]? = some (.cells cs t (0, 0)) → o + vs.length ≤ cs.size →
    (w.setCells g o vs).heap[g]? = some (.cells (cs.toList.take o ++ vs ++ cs.toList.drop (o + vs.length)).toArray t (0, 0))
  | [], o, w, cs, h, _ => by simp [World.setCells, h]
  | v :: r, o, w, cs, h, hl => by
    rw [World.setCells, setCells_blk r (o + 1) _ _ (blk_setN h v) (by simp at hl ⊢; omega)]
    have e := list_seg_step cs.toList o v r (by simp at hl ⊢; omega)
    rw [Array.toList_setIfInBounds]
    simp only [List.length_cons]
    rw [← e, Nat.add_assoc, Nat.add_comm 1]
theorem setCells_out {g : Nat} : ∀ (vs : List Value) (o : Nat) (w : World) (b : Nat), b ≠ g → (w.setCells g o vs).heap[b]? = w.heap[b]?
  | [], o, w, b, _ => rfl
  | v :: r, o, w, b, h => by rw [World.setCells, setCells_out r _ _ b h]; exact Below.heap_setCell _ _ _ _ h
theorem setCells_size {g : Nat} : ∀ (vs : List Value) (o : Nat) (w : World), (w.setCells g o vs).heap.size = w.heap.size
  | [], o, w => rfl
  | v :: r, o, w => by rw [World.setCells, setCells_size r]; simp [World.setCell]
theorem setCells_below {B g : Nat} (hg : B ≤ g) {a : World} : ∀ (vs : List Value) (o : Nat) (w : World), Below B a w → Below B a (w.setCells g o vs)
  | [], o, w, h => h
  | v :: r, o, w, h => setCells_below hg r _ _ (h.setCell hg v)
theorem zero26 (w : World) : (zeroValue 26).run Try.prog w = .ok (Value.slice none 0 0) w := by
  obtain ⟨i0, hi0, hz0, hzs, hzb⟩ := info_parts info26
  simp [zeroValue, typeInfo, hi0, hz0]
set_option maxHeartbeats 4000000 in
theorem del_any (g n i : Nat) (sv : List Value) (w : World) (hr : w.heap[g]? = some (.cells sv.toArray 26 (0, 0))) (hn : sv.length = n) (hi : i < n) (hb : n ≤ 2000000) (h1c : ∀ v ∈ sv, v.oneCell' = true) :
    Calls Try.prog 55 #[.slice (some ⟨g, 0, none⟩) n n, .int .i64 (i : Nat), .int .i64 ((i + 1 : Nat) : Int)] w fun e w' => e = .returned (.slice (some ⟨g, 0, none⟩) (n - 1) n) ∧
      w'.heap[g]? = some (.cells (sv.take i ++ sv.drop (i + 1) ++ [Value.slice none 0 0]).toArray 26 (0, 0)) ∧ (∀ b, b ≠ g → w'.heap[b]? = w.heap[b]?) ∧ w'.heap.size = w.heap.size ∧ Below g w w' := by
  obtain ⟨i0, hi0, hz0, hzs, hzb⟩ := info_parts info26
  obtain ⟨j, hj⟩ : ∃ j, j = i + 1 := ⟨_, rfl⟩
  have hjn : j ≤ n := by omega
  rw [← hj]
  obtain ⟨news, hnews⟩ : ∃ news, news = sv.drop j := ⟨_, rfl⟩
  have hlen : news.length = n - j := by rw [hnews, List.length_drop, hn]
  obtain ⟨A, hA, hsrc⟩ : ∃ A : Addr, (if n = j then some (⟨g, 0, none⟩ : Addr) else some ⟨g, j, none⟩) = some A ∧ Hid (∀ t u, news[t]? = some u → w.drew.cell? (A.add t) = some u) := by
    by_cases h : n = j
    · refine ⟨⟨g, 0, none⟩, by simp [h], fun t u hu => ?_⟩
      have h0 : news.length = 0 := by rw [hlen]; omega
      rw [List.length_eq_zero_iff.1 h0] at hu
      simp at hu
    · refine ⟨⟨g, j, none⟩, by simp [h], fun t u hu => ?_⟩
      rw [Addr.add_lit]
      exact cell_blkN (w := w) hr (by rw [List.getElem?_toArray]; rw [hnews, List.getElem?_drop] at hu; exact hu)
  have hcw : ∀ t, t < n → (w.cell? ⟨g, t, none⟩).isSome = true := fun t ht => by rw [cell_blkN hr (u := sv[t]) (by rw [List.getElem?_toArray, List.getElem?_eq_getElem (by omega)])]; rfl
  have s1 : Hid (news.length = (n - j) * 1) := by rw [Nat.mul_one]; exact hlen
  have s2 : Hid (∀ u ∈ news, u.oneCell' = true) := hide (fun u hu => h1c u (by rw [hnews] at hu; exact List.mem_of_mem_drop hu))
  have s3 : Hid (∀ t, t < news.length → (w.drew.cell? ⟨g, 0 + i * 1 + t, none⟩).isSome = true ∧ w.drew.frozen? ⟨g, 0 + i * 1 + t, none⟩ = false) := hide (fun t ht => by
    rw [hlen] at ht
    rw [Nat.mul_one, Nat.zero_add]
    exact ⟨hcw _ (by omega), frzN (w := w) hr _⟩)
  obtain ⟨W1, hW1⟩ : ∃ W1, W1 = w.drew.setCells g (0 + i * 1) news := ⟨_, rfl⟩
  have hR1 : W1.heap[g]? = some (.cells (sv.take i ++ news ++ sv.drop (i + news.length)).toArray 26 (0, 0)) := by
    rw [hW1, setCells_blk news _ w.drew sv.toArray hr (by simp [hlen, hn]; omega)]
    simp
  have hle1 : (sv.take i ++ news ++ sv.drop (i + news.length)).length = n := by simp [hlen, hn]; omega
  have hin : i + (n - j) = n - 1 := by omega
  have hcl : ∀ ty, (Builtin.clear_ #[22] ty #[.slice (some ⟨g, n - 1, none⟩) 1 1]).run Try.prog W1 = .ok (.tuple #[]) (W1.setCells g (n - 1) [Value.slice none 0 0]) := fun ty =>
    Lib.run_clear_slice W1 22 26 ty _ Try.underlying22 zero26 rfl rfl g (n - 1) 1 1 (by omega) (fun t ht => by
      rw [cell_blkN hR1 (u := (sv.take i ++ news ++ sv.drop (i + news.length))[n - 1 + t]'(by rw [hle1]; omega)) (by rw [List.getElem?_toArray, List.getElem?_eq_getElem])]; rfl) (fun t _ => frzN hR1 _)
  have HF : Hid ((W1.setCells g (n - 1) [Value.slice none 0 0]).heap[g]? = some (.cells (sv.take i ++ sv.drop j ++ [Value.slice none 0 0]).toArray 26 (0, 0)) ∧ (∀ b, b ≠ g → (W1.setCells g (n - 1) [Value.slice none 0 0]).heap[b]? = w.heap[b]?) ∧ (W1.setCells g (n - 1) [Value.slice none 0 0]).heap.size = w.heap.size ∧ Below g w (W1.setCells g (n - 1) [Value.slice none 0 0])) := hide (by
    refine ⟨?_, fun b hb => ?_, ?_, ?_⟩
    · rw [setCells_blk _ _ _ _ hR1 (by simp [hlen, hn]; omega)]
      have e : (sv.take i ++ news).length = n - 1 := by simp [hlen, hn]; omega
      have e1 : (sv.take i ++ news ++ sv.drop (i + news.length)).take (n - 1) = sv.take i ++ news := by
        rw [List.take_append_of_le_length (by omega), List.take_of_length_le (by omega)]
      have e2 : (sv.take i ++ news ++ sv.drop (i + news.length)).drop (n - 1 + 1) = [] := List.drop_of_length_le (by rw [hle1]; omega)
      simp only [List.length_singleton]
      rw [e1, e2, hnews]
      simp
    · rw [setCells_out _ _ _ _ hb, hW1, setCells_out _ _ _ _ hb]; rfl
    · rw [setCells_size, hW1, setCells_size]; rfl
    · refine setCells_below (Nat.le_refl _) _ _ _ ?_
      rw [hW1]
      exact setCells_below (Nat.le_refl _) _ _ _ (Below.refl _ w).drew)
  have hn1 : n - (n - 1) = 1 := by omega
  have hW : Hid (W1 = w.drew.setCells g (0 + i * 1) news) := hW1
  have hw1 : ((n : Int) - 1) = ((n - 1 : Nat) : Int) := by omega
  have hij : ¬ (i : Int) = (j : Int) := by omega
  have hij1 : (i : Int) ≤ (j : Int) := by omega
  have hjn1 : (j : Int) ≤ (n : Int) := by omega
  have hin1 : i ≤ n := by omega
  have HIN := hide hin
  have mixed : Try.prog.follows .mixedOrders = true := by kernel_rfl
  clear hW1 hR1 hle1 hr hnews hlen hcw hw1 hin hj
  go_enter Try.func55, Try.ntmps55
  go_wp2_with fail
  go_region_law_o (refine step_append_room rfl (.tmp 22) (.tmp 25) 22 rfl 26 i0 1 Try.underlying22 hi0 hzs g 0 i n (by simp [Act.eval, Act.put]) A (n - j) (n - j) news (by simp [Act.eval, Act.put]) s1.out hsrc.out s2.out (by omega) s3.out ?_; rw [← hW.out, HIN.out])
  go_wp2
  go_ret
  exact ⟨rfl, HF.out⟩
end Go.Proofs.Ytebikoekpbnpbaa

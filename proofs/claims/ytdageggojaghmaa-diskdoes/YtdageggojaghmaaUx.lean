/- the document's functions: Full -/
import Derived.Test.YtdageggojaghmaaIx
import Derived.Lib.AppendZeros
namespace Go.Proofs.Ytdageggojaghmaa
open Go.RowKit
theorem zeroCells5 (n : Nat) : Builtin.zeroCells (Value.int .u8 0).cells n = (zeros n).toArray := by
  simp [Builtin.zeroCells, zeros, show (Value.int .u8 0).cells = #[Value.int .u8 0] from rfl, Nat.mod_one, Array.ext_iff]
theorem zeros_one (n : Nat) : ∀ u ∈ zeros n, u.oneCell' = true := by
  intro u hu
  rw [List.eq_of_mem_replicate hu]
  rfl
theorem bv_zeros' (n : Nat) : zeros n = bv (List.replicate n 0) := (bv_zeros n).symm
/-- append(own, make([]byte, m)...) -/
theorem run_own_zeros (w : World) (ty : TypeId) (base g n cap m : Nat) (xs : List Value) (hown : w.ownsRow base 5 1 (.slice (some ⟨g, 0, none⟩) n cap) n xs) (hm : n + m ≤ 4096) (hbase : base ≤ w.heap.size) :
    ∃ v' w', (Builtin.append_ #[32, 3] ty #[.slice (some ⟨g, 0, none⟩) n cap, .int .i64 (m : Int)]).run Try.prog w = .ok v' w' ∧ w'.ownsRow base 5 1 v' (n + m) (xs ++ zeros m) ∧ w.grownBy w' (some g) := by
  obtain ⟨i0, hi, hz0, hz1, hz2⟩ := info_parts Try.info5
  have hw : IntKind.i64.wrap (m : Int) = m := by rw [IntKind.wrap_i64]; omega
  have hneg : ¬ ((m : Int) < 0) := by omega
  have h48i : ¬ (281474976710656 < (m : Int) * (i0.bytes : Int)) := by rw [hz2]; omega
  have hzl : (zeros m).length = m := by simp [zeros]
  rcases hown.2 with ⟨h0, _⟩ | ⟨g', cap', cur, he, hbg, hg, hnc, hcm, hcs, htake⟩
  · cases h0
  cases he
  have hlen : (xs ++ zeros m).length = (n + m) * 1 := by rw [List.length_append, hown.1, hzl, Nat.add_mul]; omega
  by_cases hroom : n + m ≤ cap
  · by_cases hm0 : m = 0
    · subst hm0
      refine ⟨.slice (some ⟨g, 0, none⟩) n cap, w, ?_, by simpa [zeros] using hown, World.grownBy.refl _ _⟩
      have hw0 : IntKind.i64.wrap 0 = 0 := rfl
      simp [Builtin.append_, run_underlying Try.underlying32, run_underlying Try.underlying3, sizeOf, typeInfo, zeroValue, hi, hz0, asInt, asIntOf, hw0, hnc, storeCells]
    · have hst := run_storeCells_at Try.prog g n 5 (zeros m) 0 cur w hg (by rw [hzl]; omega) (zeros_one m)
      simp only [Nat.add_zero] at hst
      have hns : ¬ (m * i0.size = 0) := by rw [hz1]; omega
      refine ⟨.slice (some ⟨g, 0, none⟩) (n + m) cap, w.setRow g (cur.toList.take n ++ zeros m ++ cur.toList.drop (n + (zeros m).length)).toArray, ?_, ⟨hlen, .inr ⟨g, cap, _, rfl, hbg, setRow_heap w g cur _ 5 _ hg, hroom, hcm, ?_, ?_⟩⟩, ⟨rfl, rfl, rfl, by simp, fun k _ hk => setRow_other w g k _ (fun e => hk (by rw [e]))⟩⟩
      · simp [Builtin.append_, run_underlying Try.underlying32, run_underlying Try.underlying3, sizeOf, typeInfo, zeroValue, hi, hz0, hz1, asInt, asIntOf, hw, hneg, h48i, hm0, hroom, zeroCells5, Addr.add_lit, hst]
      · simp only [List.size_toArray, List.length_append, List.length_take, List.length_drop, Array.length_toList, hzl]
        omega
      · rw [Nat.mul_one] at htake
        rw [htake, ← hlen]
        exact List.take_left
  · have hm0 : m ≠ 0 := by omega
    have hns : ¬ (m * i0.size = 0) := by rw [hz1]; omega
    have holds : ∀ j u, xs[j]? = some u → w.cell? ((⟨g, 0, none⟩ : Addr).add j) = some u := hown.cells (g := g) rfl
    have hfo := run_firstCells_some (P := Try.prog) w.drew i0.size n ⟨g, 0, none⟩ n cap xs (by rw [hz1]; exact hown.1) (by simpa using holds)
    have h63' : ¬ (9223372036854775807 < ((n : Int) + (m : Int))) := by omega
    have hnc48 := growslice_fits (need := n + m) (old := cap) (bytes := i0.bytes) (by omega) (by rw [hz2]; omega)
    have h48' : ¬ (281474976710656 < Builtin.nextslicecap (n + m) cap * i0.bytes) := by omega
    have hge := grownCap_ge w (n + m) cap 5
    refine ⟨.slice (some ⟨w.heap.size, 0, none⟩) (n + m) (grownCap w (n + m) cap 5), w.drew.alloc (.cells (xs.toArray ++ (zeros m).toArray ++ (zeros (grownCap w (n + m) cap 5 - (n + m))).toArray) 5), ?_, ⟨hlen, .inr ⟨w.heap.size, _, _, rfl, hbase, heap_alloc_new w.drew _, hge, grownCap_le_maxLen _ _ _ _ (by unfold maxLen; omega), ?_, ?_⟩⟩, ⟨rfl, rfl, rfl, by simp, fun k hk _ => Below.heap_alloc w.drew _ k hk⟩⟩
    · simp [Builtin.append_, run_underlying Try.underlying32, run_underlying Try.underlying3, sizeOf, typeInfo, zeroValue, hi, hz0, asInt, asIntOf, hw, hneg, h48i, hm0, hz1, hroom, h63', h48', Question.forced, zeroCells5, newRow, grownCap]
      rw [hz1] at hfo
      simp [hfo]
    · have h1 := hown.1
      simp [zeros] at h1 ⊢
      omega
    · simp only [Array.toList_append, List.append_assoc]
      rw [← List.append_assoc, ← hlen]
      exact List.take_left
theorem run_own_zeros_any (w : World) (ty : TypeId) (base n m : Nat) (v : Value) (xs : List Value) (hown : w.ownsRow base 5 1 v n xs) (hm : n + m = 4096) (hbase : base ≤ w.heap.size) :
    ∃ v' w', (Builtin.append_ #[32, 3] ty #[v, .int .i64 (m : Int)]).run Try.prog w = .ok v' w' ∧ w'.ownsRow base 5 1 v' (n + m) (xs ++ zeros m) ∧ Below base w w' := by
  rcases hown.2 with ⟨rfl, rfl⟩ | ⟨g, cap, cur, rfl, hbg, _⟩
  · obtain ⟨i0, hi, hz0, hz1, hz2⟩ := info_parts Try.info5
    have hx : xs = [] := List.eq_nil_of_length_eq_zero (by simpa using hown.1)
    subst hx
    have hr := Go.Lib.run_append_nil_zeros (P := Try.prog) w 32 3 ty 5 i0 _ .i64 .i64 Try.underlying32 Try.underlying3 hi hz0 m (by omega) (by omega) (by omega) (by rw [hz2]; omega)
    have hge := grownCap_ge w m 0 5
    rw [zeroCells5, zeroCells5] at hr
    refine ⟨_, _, hr, ⟨by simp [zeros], .inr ⟨w.heap.size, _, _, by rw [Nat.zero_add], hbase, heap_alloc_new w.drew _, by rw [Nat.zero_add]; exact hge, grownCap_le_maxLen _ _ _ _ (by unfold maxLen; omega), ?_, ?_⟩⟩, (Below.drew (Below.refl _ _)).alloc hbase _⟩
    · simp [zeros]; omega
    · simp [zeros]
  · obtain ⟨v', w', h1, h2, h3⟩ := run_own_zeros w ty base g n cap m xs hown (by omega) hbase
    exact ⟨v', w', h1, h2, h3.os, h3.tape, h3.output, h3.size, fun k hk => h3.block k (by omega) (by simp; omega)⟩
set_option maxRecDepth 40000 in
set_option maxHeartbeats 1000000 in
/-- the document's Full -/
theorem rfull_any (a : Option Addr) (len cap : Nat) (l : List Nat) (w : World) (h : IsB w a len cap l) (hl : len ≤ 4096) :
    Calls Try.prog 46 #[.slice a len cap] w fun e w' => ∃ q c, e = .returned (.slice (some ⟨q, 0, none⟩) 4096 c) ∧ w.heap.size ≤ q ∧ Row w' q 4096 c (full l) ∧ Below w.heap.size w w' := by
  have hbel : Below w.heap.size w (w.alloc (.cells #[] 5)) := (Below.refl _ w).alloc (Nat.le_refl _) _
  have hB0 := h.below hbel
  have hown := owns_empty w w.heap.size (Nat.le_refl _)
  have HL := hide hl
  have HLL := hide h.1
  clear h hl
  go_enter Try.func46, Try.ntmps46
  go_wp2_with (at_builtin; refine wpList_clone rfl _ _ rfl w.heap.size _ 0 [] rfl hown a len cap l rfl hB0 (by have := HL.out; omega) (by simp) w.heap.size w hbel (Nat.le_refl _) ?_)
  intro v1 w1 hown1 hb1
  have hM : len + (4096 - len) = 4096 := by have := HL.out; omega
  obtain ⟨v2, w2, hr2, hown2, hb2⟩ := run_own_zeros_any w1 32 w.heap.size len (4096 - len) v1 (bv l) hown1 hM hb1.size
  rw [hM] at hown2
  have hbv : bv l ++ zeros (4096 - len) = bv (full l) := by rw [full, fullN, bv_append, bv_zeros, HLL.out]
  rw [hbv] at hown2
  obtain ⟨q, c, rfl, hq, hrow⟩ := Row.of_owns hown2 (by omega)
  have HB2 := hide (hb1.trans hb2)
  have HR := hide hrow
  have HQ := hide hq
  have hmi : ((4096 - len : Nat) : Int) = 4096 - (len : Int) := by have := HL.out; omega
  rw [hmi] at hr2
  have hl4 : len ≤ 4096 := HL.out
  clear hown hB0 hbel hown1 hb1 hown2 hb2 hrow hq hbv hM hmi
  go_wp2_with (at_builtin; refine Go.Lib.wpList_append_run _ rfl _ _ _ _ rfl _ _ rfl rfl _ _ hr2 ?_)
  go_wp2
  go_ret
  exact ⟨q, c, rfl, HQ.out, HR.out, HB2.out⟩
end Go.Proofs.Ytdageggojaghmaa

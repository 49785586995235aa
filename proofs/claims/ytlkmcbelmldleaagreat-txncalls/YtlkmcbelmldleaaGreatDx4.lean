/- Ca Cb Cc Dd -/
import Derived.Test.YtlkmcbelmldleaaGreatDx3
/- the law's own dispatch -/
namespace Go.Proofs.YtlkmcbelmldleaaGreat
open Go.RowKit
open Go.Maps (Keyed has size)
set_option maxRecDepth 40000
set_option linter.unusedVariables false
set_option maxHeartbeats 4000000 in
theorem call_get (X : Nat → Prop) (w : World) (g : Nat) (ms : Mg) (h : Mn X w g ms) (t : Int) (ht : -9223372036854775808 ≤ t ∧ t ≤ 9223372036854775807) (key to val : ByteArray) :
    Calls Tryz.prog 26 #[.pointer (some ⟨g, 0, none⟩), .agg #[.int .u8 2, .int .i64 t, .string key, .string to, .string val]] w fun e w' => e = .returned (.agg #[.int .i64 (mGet ms t key).2.2.2, .int .i64 0, .string (mGet ms t key).2.1, .bool (mGet ms t key).2.2.1, .slice none 0 0, .slice none 0 0, .int .u64 0]) ∧ Mn X w' g (mGet ms t key).1 ∧ Frm (fun i => ¬ X i) w w' := by
  have HB : Hid (Below w.heap.size w (((w.alloc (.cells #[.int .u8 2, .int .i64 t, .string key, .string to, .string val] 40)).alloc (.cells #[.int .i64 0, .int .i64 0, .string ⟨#[]⟩, .bool false, .slice none 0 0, .slice none 0 0, .int .u64 0] 47)).alloc (.cells #[.int .i64 0, .int .i64 0, .string ⟨#[]⟩, .bool false, .slice none 0 0, .slice none 0 0, .int .u64 0] 47))) := hide ((((Below.refl _ w).alloc (Nat.le_refl _) _).alloc (by simp) _).alloc (by simp; omega) _)
  have HM := hide (h.news HB.out)
  have HC := hide (mn_get _ _ g ms HM.out t ht key)
  have hsz1 : (w.alloc (.cells #[.int .u8 2, .int .i64 t, .string key, .string to, .string val] 40)).heap.size = w.heap.size + 1 := World.size_alloc _ _
  have hsz2 : ((w.alloc (.cells #[.int .u8 2, .int .i64 t, .string key, .string to, .string val] 40)).alloc (.cells #[.int .i64 0, .int .i64 0, .string ⟨#[]⟩, .bool false, .slice none 0 0, .slice none 0 0, .int .u64 0] 47)).heap.size = w.heap.size + 1 + 1 := by rw [World.size_alloc, hsz1]
  have HSV : Hid ((((w.alloc (.cells #[.int .u8 2, .int .i64 t, .string key, .string to, .string val] 40)).alloc (.cells #[.int .i64 0, .int .i64 0, .string ⟨#[]⟩, .bool false, .slice none 0 0, .slice none 0 0, .int .u64 0] 47)).alloc (.cells #[.int .i64 0, .int .i64 0, .string ⟨#[]⟩, .bool false, .slice none 0 0, .slice none 0 0, .int .u64 0] 47)).heap.size = w.heap.size + 1 + 1 + 1) := hide (by rw [World.size_alloc, hsz2])
  have HV4 : Hid ((((w.alloc (.cells #[.int .u8 2, .int .i64 t, .string key, .string to, .string val] 40)).alloc (.cells #[.int .i64 0, .int .i64 0, .string ⟨#[]⟩, .bool false, .slice none 0 0, .slice none 0 0, .int .u64 0] 47)).alloc (.cells #[.int .i64 0, .int .i64 0, .string ⟨#[]⟩, .bool false, .slice none 0 0, .slice none 0 0, .int .u64 0] 47)).heap[w.heap.size + 1]? = some (.cells #[.int .i64 0, .int .i64 0, .string ⟨#[]⟩, .bool false, .slice none 0 0, .slice none 0 0, .int .u64 0] 47 (0, 0))) := hide ((Below.heap_alloc _ _ _ (by rw [hsz2]; omega)).trans (by have := heap_alloc_new (w.alloc (.cells #[.int .u8 2, .int .i64 t, .string key, .string to, .string val] 40)) (.cells #[.int .i64 0, .int .i64 0, .string ⟨#[]⟩, .bool false, .slice none 0 0, .slice none 0 0, .int .u64 0] 47); rw [hsz1] at this; exact this))
  have HV5 : Hid ((((w.alloc (.cells #[.int .u8 2, .int .i64 t, .string key, .string to, .string val] 40)).alloc (.cells #[.int .i64 0, .int .i64 0, .string ⟨#[]⟩, .bool false, .slice none 0 0, .slice none 0 0, .int .u64 0] 47)).alloc (.cells #[.int .i64 0, .int .i64 0, .string ⟨#[]⟩, .bool false, .slice none 0 0, .slice none 0 0, .int .u64 0] 47)).heap[w.heap.size + 1 + 1]? = some (.cells #[.int .i64 0, .int .i64 0, .string ⟨#[]⟩, .bool false, .slice none 0 0, .slice none 0 0, .int .u64 0] 47 (0, 0))) := hide (by have := heap_alloc_new ((w.alloc (.cells #[.int .u8 2, .int .i64 t, .string key, .string to, .string val] 40)).alloc (.cells #[.int .i64 0, .int .i64 0, .string ⟨#[]⟩, .bool false, .slice none 0 0, .slice none 0 0, .int .u64 0] 47)) (.cells #[.int .i64 0, .int .i64 0, .string ⟨#[]⟩, .bool false, .slice none 0 0, .slice none 0 0, .int .u64 0] 47); rw [hsz2] at this; exact this)
  clear h ht hsz1 hsz2
  go_enter Tryz.func26, Tryz.ntmps26
  go_wp2_with fail
  refine HC.out.mono ?_
  rintro e w1 ⟨rfl, hM, hF⟩
  have HM1 := hide hM
  have HF1 := hide hF
  have HW4 : Hid (w1.heap[w.heap.size + 1]? = some (.cells #[.int .i64 0, .int .i64 0, .string ⟨#[]⟩, .bool false, .slice none 0 0, .slice none 0 0, .int .u64 0] 47 (0, 0))) := hide ((hF.block _ (heap_lt HV4.out) (fun hn => hn (.inr ⟨by omega, by have := HSV.out; omega⟩))).trans HV4.out)
  have HW5 : Hid (w1.heap[w.heap.size + 1 + 1]? = some (.cells #[.int .i64 0, .int .i64 0, .string ⟨#[]⟩, .bool false, .slice none 0 0, .slice none 0 0, .int .u64 0] 47 (0, 0))) := hide ((hF.block _ (heap_lt HV5.out) (fun hn => hn (.inr ⟨by omega, by have := HSV.out; omega⟩))).trans HV5.out)
  clear hM hF HC
  have HX : Hid (∀ i, (w.heap.size ≤ i ∧ i < (((w.alloc (.cells #[.int .u8 2, .int .i64 t, .string key, .string to, .string val] 40)).alloc (.cells #[.int .i64 0, .int .i64 0, .string ⟨#[]⟩, .bool false, .slice none 0 0, .slice none 0 0, .int .u64 0] 47)).alloc (.cells #[.int .i64 0, .int .i64 0, .string ⟨#[]⟩, .bool false, .slice none 0 0, .slice none 0 0, .int .u64 0] 47)).heap.size) → (X i ∨ (w.heap.size ≤ i ∧ i < (((w.alloc (.cells #[.int .u8 2, .int .i64 t, .string key, .string to, .string val] 40)).alloc (.cells #[.int .i64 0, .int .i64 0, .string ⟨#[]⟩, .bool false, .slice none 0 0, .slice none 0 0, .int .u64 0] 47)).alloc (.cells #[.int .i64 0, .int .i64 0, .string ⟨#[]⟩, .bool false, .slice none 0 0, .slice none 0 0, .int .u64 0] 47)).heap.size))) := hide (fun i hi => .inr hi)
  have HX0 : Hid (∀ i, X i → (X i ∨ (w.heap.size ≤ i ∧ i < (((w.alloc (.cells #[.int .u8 2, .int .i64 t, .string key, .string to, .string val] 40)).alloc (.cells #[.int .i64 0, .int .i64 0, .string ⟨#[]⟩, .bool false, .slice none 0 0, .slice none 0 0, .int .u64 0] 47)).alloc (.cells #[.int .i64 0, .int .i64 0, .string ⟨#[]⟩, .bool false, .slice none 0 0, .slice none 0 0, .int .u64 0] 47)).heap.size))) := hide (fun i hi => .inl hi)
  have a0 : w1.cell? ⟨w.heap.size + 1 + 1, 0, none⟩ = some (.int .i64 0) := cell_blk HW5.out rfl
  have b0 : w1.cell? ⟨w.heap.size + 1, 0, none⟩ = some (.int .i64 0) := cell_blk HW4.out rfl
  have g0 : w1.frozen? ⟨w.heap.size + 1, 0, none⟩ = false := frz HW4.out 0
  have a1 : w1.cell? ⟨w.heap.size + 1 + 1, 1, none⟩ = some (.int .i64 0) := cell_blk HW5.out rfl
  have b1 : w1.cell? ⟨w.heap.size + 1, 1, none⟩ = some (.int .i64 0) := cell_blk HW4.out rfl
  have g1 : w1.frozen? ⟨w.heap.size + 1, 1, none⟩ = false := frz HW4.out 1
  have a2 : w1.cell? ⟨w.heap.size + 1 + 1, 2, none⟩ = some (.string ⟨#[]⟩) := cell_blk HW5.out rfl
  have b2 : w1.cell? ⟨w.heap.size + 1, 2, none⟩ = some (.string ⟨#[]⟩) := cell_blk HW4.out rfl
  have g2 : w1.frozen? ⟨w.heap.size + 1, 2, none⟩ = false := frz HW4.out 2
  have a3 : w1.cell? ⟨w.heap.size + 1 + 1, 3, none⟩ = some (.bool false) := cell_blk HW5.out rfl
  have b3 : w1.cell? ⟨w.heap.size + 1, 3, none⟩ = some (.bool false) := cell_blk HW4.out rfl
  have g3 : w1.frozen? ⟨w.heap.size + 1, 3, none⟩ = false := frz HW4.out 3
  have a4 : w1.cell? ⟨w.heap.size + 1 + 1, 4, none⟩ = some (.slice none 0 0) := cell_blk HW5.out rfl
  have b4 : w1.cell? ⟨w.heap.size + 1, 4, none⟩ = some (.slice none 0 0) := cell_blk HW4.out rfl
  have g4 : w1.frozen? ⟨w.heap.size + 1, 4, none⟩ = false := frz HW4.out 4
  have a5 : w1.cell? ⟨w.heap.size + 1 + 1, 5, none⟩ = some (.slice none 0 0) := cell_blk HW5.out rfl
  have b5 : w1.cell? ⟨w.heap.size + 1, 5, none⟩ = some (.slice none 0 0) := cell_blk HW4.out rfl
  have g5 : w1.frozen? ⟨w.heap.size + 1, 5, none⟩ = false := frz HW4.out 5
  have a6 : w1.cell? ⟨w.heap.size + 1 + 1, 6, none⟩ = some (.int .u64 0) := cell_blk HW5.out rfl
  have b6 : w1.cell? ⟨w.heap.size + 1, 6, none⟩ = some (.int .u64 0) := cell_blk HW4.out rfl
  have g6 : w1.frozen? ⟨w.heap.size + 1, 6, none⟩ = false := frz HW4.out 6
  have f2 : w1.frozen? ⟨w.heap.size + 1 + 1, 2, none⟩ = false := frz HW5.out 2
  have f3 : w1.frozen? ⟨w.heap.size + 1 + 1, 3, none⟩ = false := frz HW5.out 3
  have f0 : w1.frozen? ⟨w.heap.size + 1 + 1, 0, none⟩ = false := frz HW5.out 0
  have HT : Hid (((((((((((w1.setCell ⟨w.heap.size + 1 + 1, 2, none⟩ (.string (mGet ms t key).2.1)).setCell ⟨w.heap.size + 1 + 1, 3, none⟩ (.bool (mGet ms t key).2.2.1)).setCell ⟨w.heap.size + 1 + 1, 0, none⟩ (.int .i64 (mGet ms t key).2.2.2)).setCell ⟨w.heap.size + 1, 0, none⟩ (.int .i64 (mGet ms t key).2.2.2)).setCell ⟨w.heap.size + 1, 1, none⟩ (.int .i64 0)).setCell ⟨w.heap.size + 1, 2, none⟩ (.string (mGet ms t key).2.1)).setCell ⟨w.heap.size + 1, 3, none⟩ (.bool (mGet ms t key).2.2.1)).setCell ⟨w.heap.size + 1, 4, none⟩ (.slice none 0 0)).setCell ⟨w.heap.size + 1, 5, none⟩ (.slice none 0 0)).setCell ⟨w.heap.size + 1, 6, none⟩ (.int .u64 0)).heap[w.heap.size + 1]? = some (.cells #[.int .i64 (mGet ms t key).2.2.2, .int .i64 0, .string (mGet ms t key).2.1, .bool (mGet ms t key).2.2.1, .slice none 0 0, .slice none 0 0, .int .u64 0] 47 (0, 0))) := hide (by
    have p0 : (((w1.setCell ⟨w.heap.size + 1 + 1, 2, none⟩ (.string (mGet ms t key).2.1)).setCell ⟨w.heap.size + 1 + 1, 3, none⟩ (.bool (mGet ms t key).2.2.1)).setCell ⟨w.heap.size + 1 + 1, 0, none⟩ (.int .i64 (mGet ms t key).2.2.2)).heap[w.heap.size + 1]? = some (.cells #[.int .i64 0, .int .i64 0, .string ⟨#[]⟩, .bool false, .slice none 0 0, .slice none 0 0, .int .u64 0] 47 (0, 0)) := (Below.heap_setCell _ _ _ _ (by simp)).trans ((Below.heap_setCell _ _ _ _ (by simp)).trans ((Below.heap_setCell _ _ _ _ (by simp)).trans (HW4.out)))
    have p1 := blk_set2 (j := 0) p0 (.int .i64 (mGet ms t key).2.2.2)
    have p2 := blk_set2 (j := 1) p1 (.int .i64 0)
    have p3 := blk_set2 (j := 2) p2 (.string (mGet ms t key).2.1)
    have p4 := blk_set2 (j := 3) p3 (.bool (mGet ms t key).2.2.1)
    have p5 := blk_set2 (j := 4) p4 (.slice none 0 0)
    have p6 := blk_set2 (j := 5) p5 (.slice none 0 0)
    have p7 := blk_set2 (j := 6) p6 (.int .u64 0)
    simpa using p7)
  have HFE : Hid (Frm (fun i => ¬ X i) w ((((((((((w1.setCell ⟨w.heap.size + 1 + 1, 2, none⟩ (.string (mGet ms t key).2.1)).setCell ⟨w.heap.size + 1 + 1, 3, none⟩ (.bool (mGet ms t key).2.2.1)).setCell ⟨w.heap.size + 1 + 1, 0, none⟩ (.int .i64 (mGet ms t key).2.2.2)).setCell ⟨w.heap.size + 1, 0, none⟩ (.int .i64 (mGet ms t key).2.2.2)).setCell ⟨w.heap.size + 1, 1, none⟩ (.int .i64 0)).setCell ⟨w.heap.size + 1, 2, none⟩ (.string (mGet ms t key).2.1)).setCell ⟨w.heap.size + 1, 3, none⟩ (.bool (mGet ms t key).2.2.1)).setCell ⟨w.heap.size + 1, 4, none⟩ (.slice none 0 0)).setCell ⟨w.heap.size + 1, 5, none⟩ (.slice none 0 0)).setCell ⟨w.heap.size + 1, 6, none⟩ (.int .u64 0)) ∧ Mn X ((((((((((w1.setCell ⟨w.heap.size + 1 + 1, 2, none⟩ (.string (mGet ms t key).2.1)).setCell ⟨w.heap.size + 1 + 1, 3, none⟩ (.bool (mGet ms t key).2.2.1)).setCell ⟨w.heap.size + 1 + 1, 0, none⟩ (.int .i64 (mGet ms t key).2.2.2)).setCell ⟨w.heap.size + 1, 0, none⟩ (.int .i64 (mGet ms t key).2.2.2)).setCell ⟨w.heap.size + 1, 1, none⟩ (.int .i64 0)).setCell ⟨w.heap.size + 1, 2, none⟩ (.string (mGet ms t key).2.1)).setCell ⟨w.heap.size + 1, 3, none⟩ (.bool (mGet ms t key).2.2.1)).setCell ⟨w.heap.size + 1, 4, none⟩ (.slice none 0 0)).setCell ⟨w.heap.size + 1, 5, none⟩ (.slice none 0 0)).setCell ⟨w.heap.size + 1, 6, none⟩ (.int .u64 0)) g (mGet ms t key).1) := hide (by
    have h0 : Frm (fun i => ¬ X i) w w1 := ⟨by rw [HF1.out.os]; exact HB.out.os, by rw [HF1.out.tape]; exact HB.out.tape, by rw [HF1.out.output]; exact HB.out.output, Nat.le_trans HB.out.size HF1.out.size, fun i hi hn => (HF1.out.block i (Nat.lt_of_lt_of_le hi HB.out.size) (fun hq => hq (.inl (Classical.not_not.1 hn)))).trans (HB.out.block i hi)⟩
    have hx5 : w.heap.size ≤ w.heap.size + 1 + 1 ∧ w.heap.size + 1 + 1 < (((w.alloc (.cells #[.int .u8 2, .int .i64 t, .string key, .string to, .string val] 40)).alloc (.cells #[.int .i64 0, .int .i64 0, .string ⟨#[]⟩, .bool false, .slice none 0 0, .slice none 0 0, .int .u64 0] 47)).alloc (.cells #[.int .i64 0, .int .i64 0, .string ⟨#[]⟩, .bool false, .slice none 0 0, .slice none 0 0, .int .u64 0] 47)).heap.size := ⟨by omega, by have := HSV.out; omega⟩
    have hx4 : w.heap.size ≤ w.heap.size + 1 ∧ w.heap.size + 1 < (((w.alloc (.cells #[.int .u8 2, .int .i64 t, .string key, .string to, .string val] 40)).alloc (.cells #[.int .i64 0, .int .i64 0, .string ⟨#[]⟩, .bool false, .slice none 0 0, .slice none 0 0, .int .u64 0] 47)).alloc (.cells #[.int .i64 0, .int .i64 0, .string ⟨#[]⟩, .bool false, .slice none 0 0, .slice none 0 0, .int .u64 0] 47)).heap.size := ⟨by omega, by have := HSV.out; omega⟩
    exact ⟨(Frm.setFar (Frm.setFar (Frm.setFar (Frm.setFar (Frm.setFar (Frm.setFar (Frm.setFar (Frm.setFar (Frm.setFar (Frm.setFar h0 (by simp; omega) _) (by simp; omega) _) (by simp; omega) _) (by simp) _) (by simp) _) (by simp) _) (by simp) _) (by simp) _) (by simp) _) (by simp) _), Mn.mono (Mn.setX (Mn.setX (Mn.setX (Mn.setX (Mn.setX (Mn.setX (Mn.setX (Mn.setX (Mn.setX (Mn.setX HM1.out (HX.out _ hx5) _) (HX.out _ hx5) _) (HX.out _ hx5) _) (HX.out _ hx4) _) (HX.out _ hx4) _) (HX.out _ hx4) _) (HX.out _ hx4) _) (HX.out _ hx4) _) (HX.out _ hx4) _) (HX.out _ hx4) _) (fun i hi => HX0.out i hi)⟩)
  clear HM1 HF1 HV4 HV5 HW4 HW5 HM HB HSV
  go_wp2
  refine bodyPost_ret (results_cell_row (P := Tryz.prog) (p := 4) (ty := 47) rfl _ _ _ 47 _ (0, 0) _ rfl HT.out Tryz.underlying47 rfl (by kernel_rfl)) rfl ?_
  exact ⟨rfl, HFE.out.2, HFE.out.1⟩
set_option maxHeartbeats 4000000 in
theorem call_put (X : Nat → Prop) (w : World) (g : Nat) (ms : Mg) (h : Mn X w g ms) (t : Int) (ht : -9223372036854775808 ≤ t ∧ t ≤ 9223372036854775807) (key to val : ByteArray) :
    Calls Tryz.prog 26 #[.pointer (some ⟨g, 0, none⟩), .agg #[.int .u8 4, .int .i64 t, .string key, .string to, .string val]] w fun e w' => e = .returned (.agg #[.int .i64 (mWrite ms t ⟨key, val, false⟩).2, .int .i64 0, .string ⟨#[]⟩, .bool false, .slice none 0 0, .slice none 0 0, .int .u64 0]) ∧ Mn X w' g (mWrite ms t ⟨key, val, false⟩).1 ∧ Frm (fun i => ¬ X i) w w' := by
  have HB : Hid (Below w.heap.size w (((w.alloc (.cells #[.int .u8 4, .int .i64 t, .string key, .string to, .string val] 40)).alloc (.cells #[.int .i64 0, .int .i64 0, .string ⟨#[]⟩, .bool false, .slice none 0 0, .slice none 0 0, .int .u64 0] 47)).alloc (.cells #[.int .i64 0, .int .i64 0, .string ⟨#[]⟩, .bool false, .slice none 0 0, .slice none 0 0, .int .u64 0] 47))) := hide ((((Below.refl _ w).alloc (Nat.le_refl _) _).alloc (by simp) _).alloc (by simp; omega) _)
  have HM := hide (h.news HB.out)
  have HC := hide (mn_put _ _ g ms HM.out t ht key val)
  have hsz1 : (w.alloc (.cells #[.int .u8 4, .int .i64 t, .string key, .string to, .string val] 40)).heap.size = w.heap.size + 1 := World.size_alloc _ _
  have hsz2 : ((w.alloc (.cells #[.int .u8 4, .int .i64 t, .string key, .string to, .string val] 40)).alloc (.cells #[.int .i64 0, .int .i64 0, .string ⟨#[]⟩, .bool false, .slice none 0 0, .slice none 0 0, .int .u64 0] 47)).heap.size = w.heap.size + 1 + 1 := by rw [World.size_alloc, hsz1]
  have HSV : Hid ((((w.alloc (.cells #[.int .u8 4, .int .i64 t, .string key, .string to, .string val] 40)).alloc (.cells #[.int .i64 0, .int .i64 0, .string ⟨#[]⟩, .bool false, .slice none 0 0, .slice none 0 0, .int .u64 0] 47)).alloc (.cells #[.int .i64 0, .int .i64 0, .string ⟨#[]⟩, .bool false, .slice none 0 0, .slice none 0 0, .int .u64 0] 47)).heap.size = w.heap.size + 1 + 1 + 1) := hide (by rw [World.size_alloc, hsz2])
  have HV4 : Hid ((((w.alloc (.cells #[.int .u8 4, .int .i64 t, .string key, .string to, .string val] 40)).alloc (.cells #[.int .i64 0, .int .i64 0, .string ⟨#[]⟩, .bool false, .slice none 0 0, .slice none 0 0, .int .u64 0] 47)).alloc (.cells #[.int .i64 0, .int .i64 0, .string ⟨#[]⟩, .bool false, .slice none 0 0, .slice none 0 0, .int .u64 0] 47)).heap[w.heap.size + 1]? = some (.cells #[.int .i64 0, .int .i64 0, .string ⟨#[]⟩, .bool false, .slice none 0 0, .slice none 0 0, .int .u64 0] 47 (0, 0))) := hide ((Below.heap_alloc _ _ _ (by rw [hsz2]; omega)).trans (by have := heap_alloc_new (w.alloc (.cells #[.int .u8 4, .int .i64 t, .string key, .string to, .string val] 40)) (.cells #[.int .i64 0, .int .i64 0, .string ⟨#[]⟩, .bool false, .slice none 0 0, .slice none 0 0, .int .u64 0] 47); rw [hsz1] at this; exact this))
  have HV5 : Hid ((((w.alloc (.cells #[.int .u8 4, .int .i64 t, .string key, .string to, .string val] 40)).alloc (.cells #[.int .i64 0, .int .i64 0, .string ⟨#[]⟩, .bool false, .slice none 0 0, .slice none 0 0, .int .u64 0] 47)).alloc (.cells #[.int .i64 0, .int .i64 0, .string ⟨#[]⟩, .bool false, .slice none 0 0, .slice none 0 0, .int .u64 0] 47)).heap[w.heap.size + 1 + 1]? = some (.cells #[.int .i64 0, .int .i64 0, .string ⟨#[]⟩, .bool false, .slice none 0 0, .slice none 0 0, .int .u64 0] 47 (0, 0))) := hide (by have := heap_alloc_new ((w.alloc (.cells #[.int .u8 4, .int .i64 t, .string key, .string to, .string val] 40)).alloc (.cells #[.int .i64 0, .int .i64 0, .string ⟨#[]⟩, .bool false, .slice none 0 0, .slice none 0 0, .int .u64 0] 47)) (.cells #[.int .i64 0, .int .i64 0, .string ⟨#[]⟩, .bool false, .slice none 0 0, .slice none 0 0, .int .u64 0] 47); rw [hsz2] at this; exact this)
  clear h ht hsz1 hsz2
  go_enter Tryz.func26, Tryz.ntmps26
  go_wp2_with fail
  refine HC.out.mono ?_
  rintro e w1 ⟨rfl, hM, hF⟩
  have HM1 := hide hM
  have HF1 := hide hF
  have HW4 : Hid (w1.heap[w.heap.size + 1]? = some (.cells #[.int .i64 0, .int .i64 0, .string ⟨#[]⟩, .bool false, .slice none 0 0, .slice none 0 0, .int .u64 0] 47 (0, 0))) := hide ((hF.block _ (heap_lt HV4.out) (fun hn => hn (.inr ⟨by omega, by have := HSV.out; omega⟩))).trans HV4.out)
  have HW5 : Hid (w1.heap[w.heap.size + 1 + 1]? = some (.cells #[.int .i64 0, .int .i64 0, .string ⟨#[]⟩, .bool false, .slice none 0 0, .slice none 0 0, .int .u64 0] 47 (0, 0))) := hide ((hF.block _ (heap_lt HV5.out) (fun hn => hn (.inr ⟨by omega, by have := HSV.out; omega⟩))).trans HV5.out)
  clear hM hF HC
  have HX : Hid (∀ i, (w.heap.size ≤ i ∧ i < (((w.alloc (.cells #[.int .u8 4, .int .i64 t, .string key, .string to, .string val] 40)).alloc (.cells #[.int .i64 0, .int .i64 0, .string ⟨#[]⟩, .bool false, .slice none 0 0, .slice none 0 0, .int .u64 0] 47)).alloc (.cells #[.int .i64 0, .int .i64 0, .string ⟨#[]⟩, .bool false, .slice none 0 0, .slice none 0 0, .int .u64 0] 47)).heap.size) → (X i ∨ (w.heap.size ≤ i ∧ i < (((w.alloc (.cells #[.int .u8 4, .int .i64 t, .string key, .string to, .string val] 40)).alloc (.cells #[.int .i64 0, .int .i64 0, .string ⟨#[]⟩, .bool false, .slice none 0 0, .slice none 0 0, .int .u64 0] 47)).alloc (.cells #[.int .i64 0, .int .i64 0, .string ⟨#[]⟩, .bool false, .slice none 0 0, .slice none 0 0, .int .u64 0] 47)).heap.size))) := hide (fun i hi => .inr hi)
  have HX0 : Hid (∀ i, X i → (X i ∨ (w.heap.size ≤ i ∧ i < (((w.alloc (.cells #[.int .u8 4, .int .i64 t, .string key, .string to, .string val] 40)).alloc (.cells #[.int .i64 0, .int .i64 0, .string ⟨#[]⟩, .bool false, .slice none 0 0, .slice none 0 0, .int .u64 0] 47)).alloc (.cells #[.int .i64 0, .int .i64 0, .string ⟨#[]⟩, .bool false, .slice none 0 0, .slice none 0 0, .int .u64 0] 47)).heap.size))) := hide (fun i hi => .inl hi)
  have a0 : w1.cell? ⟨w.heap.size + 1 + 1, 0, none⟩ = some (.int .i64 0) := cell_blk HW5.out rfl
  have b0 : w1.cell? ⟨w.heap.size + 1, 0, none⟩ = some (.int .i64 0) := cell_blk HW4.out rfl
  have g0 : w1.frozen? ⟨w.heap.size + 1, 0, none⟩ = false := frz HW4.out 0
  have a1 : w1.cell? ⟨w.heap.size + 1 + 1, 1, none⟩ = some (.int .i64 0) := cell_blk HW5.out rfl
  have b1 : w1.cell? ⟨w.heap.size + 1, 1, none⟩ = some (.int .i64 0) := cell_blk HW4.out rfl
  have g1 : w1.frozen? ⟨w.heap.size + 1, 1, none⟩ = false := frz HW4.out 1
  have a2 : w1.cell? ⟨w.heap.size + 1 + 1, 2, none⟩ = some (.string ⟨#[]⟩) := cell_blk HW5.out rfl
  have b2 : w1.cell? ⟨w.heap.size + 1, 2, none⟩ = some (.string ⟨#[]⟩) := cell_blk HW4.out rfl
  have g2 : w1.frozen? ⟨w.heap.size + 1, 2, none⟩ = false := frz HW4.out 2
  have a3 : w1.cell? ⟨w.heap.size + 1 + 1, 3, none⟩ = some (.bool false) := cell_blk HW5.out rfl
  have b3 : w1.cell? ⟨w.heap.size + 1, 3, none⟩ = some (.bool false) := cell_blk HW4.out rfl
  have g3 : w1.frozen? ⟨w.heap.size + 1, 3, none⟩ = false := frz HW4.out 3
  have a4 : w1.cell? ⟨w.heap.size + 1 + 1, 4, none⟩ = some (.slice none 0 0) := cell_blk HW5.out rfl
  have b4 : w1.cell? ⟨w.heap.size + 1, 4, none⟩ = some (.slice none 0 0) := cell_blk HW4.out rfl
  have g4 : w1.frozen? ⟨w.heap.size + 1, 4, none⟩ = false := frz HW4.out 4
  have a5 : w1.cell? ⟨w.heap.size + 1 + 1, 5, none⟩ = some (.slice none 0 0) := cell_blk HW5.out rfl
  have b5 : w1.cell? ⟨w.heap.size + 1, 5, none⟩ = some (.slice none 0 0) := cell_blk HW4.out rfl
  have g5 : w1.frozen? ⟨w.heap.size + 1, 5, none⟩ = false := frz HW4.out 5
  have a6 : w1.cell? ⟨w.heap.size + 1 + 1, 6, none⟩ = some (.int .u64 0) := cell_blk HW5.out rfl
  have b6 : w1.cell? ⟨w.heap.size + 1, 6, none⟩ = some (.int .u64 0) := cell_blk HW4.out rfl
  have g6 : w1.frozen? ⟨w.heap.size + 1, 6, none⟩ = false := frz HW4.out 6
  have f0 : w1.frozen? ⟨w.heap.size + 1 + 1, 0, none⟩ = false := frz HW5.out 0
  have HT : Hid (((((((((w1.setCell ⟨w.heap.size + 1 + 1, 0, none⟩ (.int .i64 (mWrite ms t ⟨key, val, false⟩).2)).setCell ⟨w.heap.size + 1, 0, none⟩ (.int .i64 (mWrite ms t ⟨key, val, false⟩).2)).setCell ⟨w.heap.size + 1, 1, none⟩ (.int .i64 0)).setCell ⟨w.heap.size + 1, 2, none⟩ (.string ⟨#[]⟩)).setCell ⟨w.heap.size + 1, 3, none⟩ (.bool false)).setCell ⟨w.heap.size + 1, 4, none⟩ (.slice none 0 0)).setCell ⟨w.heap.size + 1, 5, none⟩ (.slice none 0 0)).setCell ⟨w.heap.size + 1, 6, none⟩ (.int .u64 0)).heap[w.heap.size + 1]? = some (.cells #[.int .i64 (mWrite ms t ⟨key, val, false⟩).2, .int .i64 0, .string ⟨#[]⟩, .bool false, .slice none 0 0, .slice none 0 0, .int .u64 0] 47 (0, 0))) := hide (by
    have p0 : (w1.setCell ⟨w.heap.size + 1 + 1, 0, none⟩ (.int .i64 (mWrite ms t ⟨key, val, false⟩).2)).heap[w.heap.size + 1]? = some (.cells #[.int .i64 0, .int .i64 0, .string ⟨#[]⟩, .bool false, .slice none 0 0, .slice none 0 0, .int .u64 0] 47 (0, 0)) := (Below.heap_setCell _ _ _ _ (by simp)).trans (HW4.out)
    have p1 := blk_set2 (j := 0) p0 (.int .i64 (mWrite ms t ⟨key, val, false⟩).2)
    have p2 := blk_set2 (j := 1) p1 (.int .i64 0)
    have p3 := blk_set2 (j := 2) p2 (.string ⟨#[]⟩)
    have p4 := blk_set2 (j := 3) p3 (.bool false)
    have p5 := blk_set2 (j := 4) p4 (.slice none 0 0)
    have p6 := blk_set2 (j := 5) p5 (.slice none 0 0)
    have p7 := blk_set2 (j := 6) p6 (.int .u64 0)
    simpa using p7)
  have HFE : Hid (Frm (fun i => ¬ X i) w ((((((((w1.setCell ⟨w.heap.size + 1 + 1, 0, none⟩ (.int .i64 (mWrite ms t ⟨key, val, false⟩).2)).setCell ⟨w.heap.size + 1, 0, none⟩ (.int .i64 (mWrite ms t ⟨key, val, false⟩).2)).setCell ⟨w.heap.size + 1, 1, none⟩ (.int .i64 0)).setCell ⟨w.heap.size + 1, 2, none⟩ (.string ⟨#[]⟩)).setCell ⟨w.heap.size + 1, 3, none⟩ (.bool false)).setCell ⟨w.heap.size + 1, 4, none⟩ (.slice none 0 0)).setCell ⟨w.heap.size + 1, 5, none⟩ (.slice none 0 0)).setCell ⟨w.heap.size + 1, 6, none⟩ (.int .u64 0)) ∧ Mn X ((((((((w1.setCell ⟨w.heap.size + 1 + 1, 0, none⟩ (.int .i64 (mWrite ms t ⟨key, val, false⟩).2)).setCell ⟨w.heap.size + 1, 0, none⟩ (.int .i64 (mWrite ms t ⟨key, val, false⟩).2)).setCell ⟨w.heap.size + 1, 1, none⟩ (.int .i64 0)).setCell ⟨w.heap.size + 1, 2, none⟩ (.string ⟨#[]⟩)).setCell ⟨w.heap.size + 1, 3, none⟩ (.bool false)).setCell ⟨w.heap.size + 1, 4, none⟩ (.slice none 0 0)).setCell ⟨w.heap.size + 1, 5, none⟩ (.slice none 0 0)).setCell ⟨w.heap.size + 1, 6, none⟩ (.int .u64 0)) g (mWrite ms t ⟨key, val, false⟩).1) := hide (by
    have h0 : Frm (fun i => ¬ X i) w w1 := ⟨by rw [HF1.out.os]; exact HB.out.os, by rw [HF1.out.tape]; exact HB.out.tape, by rw [HF1.out.output]; exact HB.out.output, Nat.le_trans HB.out.size HF1.out.size, fun i hi hn => (HF1.out.block i (Nat.lt_of_lt_of_le hi HB.out.size) (fun hq => hq (.inl (Classical.not_not.1 hn)))).trans (HB.out.block i hi)⟩
    have hx5 : w.heap.size ≤ w.heap.size + 1 + 1 ∧ w.heap.size + 1 + 1 < (((w.alloc (.cells #[.int .u8 4, .int .i64 t, .string key, .string to, .string val] 40)).alloc (.cells #[.int .i64 0, .int .i64 0, .string ⟨#[]⟩, .bool false, .slice none 0 0, .slice none 0 0, .int .u64 0] 47)).alloc (.cells #[.int .i64 0, .int .i64 0, .string ⟨#[]⟩, .bool false, .slice none 0 0, .slice none 0 0, .int .u64 0] 47)).heap.size := ⟨by omega, by have := HSV.out; omega⟩
    have hx4 : w.heap.size ≤ w.heap.size + 1 ∧ w.heap.size + 1 < (((w.alloc (.cells #[.int .u8 4, .int .i64 t, .string key, .string to, .string val] 40)).alloc (.cells #[.int .i64 0, .int .i64 0, .string ⟨#[]⟩, .bool false, .slice none 0 0, .slice none 0 0, .int .u64 0] 47)).alloc (.cells #[.int .i64 0, .int .i64 0, .string ⟨#[]⟩, .bool false, .slice none 0 0, .slice none 0 0, .int .u64 0] 47)).heap.size := ⟨by omega, by have := HSV.out; omega⟩
    exact ⟨(Frm.setFar (Frm.setFar (Frm.setFar (Frm.setFar (Frm.setFar (Frm.setFar (Frm.setFar (Frm.setFar h0 (by simp; omega) _) (by simp) _) (by simp) _) (by simp) _) (by simp) _) (by simp) _) (by simp) _) (by simp) _), Mn.mono (Mn.setX (Mn.setX (Mn.setX (Mn.setX (Mn.setX (Mn.setX (Mn.setX (Mn.setX HM1.out (HX.out _ hx5) _) (HX.out _ hx4) _) (HX.out _ hx4) _) (HX.out _ hx4) _) (HX.out _ hx4) _) (HX.out _ hx4) _) (HX.out _ hx4) _) (HX.out _ hx4) _) (fun i hi => HX0.out i hi)⟩)
  clear HM1 HF1 HV4 HV5 HW4 HW5 HM HB HSV
  go_wp2
  refine bodyPost_ret (results_cell_row (P := Tryz.prog) (p := 4) (ty := 47) rfl _ _ _ 47 _ (0, 0) _ rfl HT.out Tryz.underlying47 rfl (by kernel_rfl)) rfl ?_
  exact ⟨rfl, HFE.out.2, HFE.out.1⟩
set_option maxHeartbeats 4000000 in
theorem call_delete (X : Nat → Prop) (w : World) (g : Nat) (ms : Mg) (h : Mn X w g ms) (t : Int) (ht : -9223372036854775808 ≤ t ∧ t ≤ 9223372036854775807) (key to val : ByteArray) :
    Calls Tryz.prog 26 #[.pointer (some ⟨g, 0, none⟩), .agg #[.int .u8 5, .int .i64 t, .string key, .string to, .string val]] w fun e w' => e = .returned (.agg #[.int .i64 (mWrite ms t ⟨key, ⟨#[]⟩, true⟩).2, .int .i64 0, .string ⟨#[]⟩, .bool false, .slice none 0 0, .slice none 0 0, .int .u64 0]) ∧ Mn X w' g (mWrite ms t ⟨key, ⟨#[]⟩, true⟩).1 ∧ Frm (fun i => ¬ X i) w w' := by
  have HB : Hid (Below w.heap.size w (((w.alloc (.cells #[.int .u8 5, .int .i64 t, .string key, .string to, .string val] 40)).alloc (.cells #[.int .i64 0, .int .i64 0, .string ⟨#[]⟩, .bool false, .slice none 0 0, .slice none 0 0, .int .u64 0] 47)).alloc (.cells #[.int .i64 0, .int .i64 0, .string ⟨#[]⟩, .bool false, .slice none 0 0, .slice none 0 0, .int .u64 0] 47))) := hide ((((Below.refl _ w).alloc (Nat.le_refl _) _).alloc (by simp) _).alloc (by simp; omega) _)
  have HM := hide (h.news HB.out)
  have HC := hide (mn_delete _ _ g ms HM.out t ht key)
  have hsz1 : (w.alloc (.cells #[.int .u8 5, .int .i64 t, .string key, .string to, .string val] 40)).heap.size = w.heap.size + 1 := World.size_alloc _ _
  have hsz2 : ((w.alloc (.cells #[.int .u8 5, .int .i64 t, .string key, .string to, .string val] 40)).alloc (.cells #[.int .i64 0, .int .i64 0, .string ⟨#[]⟩, .bool false, .slice none 0 0, .slice none 0 0, .int .u64 0] 47)).heap.size = w.heap.size + 1 + 1 := by rw [World.size_alloc, hsz1]
  have HSV : Hid ((((w.alloc (.cells #[.int .u8 5, .int .i64 t, .string key, .string to, .string val] 40)).alloc (.cells #[.int .i64 0, .int .i64 0, .string ⟨#[]⟩, .bool false, .slice none 0 0, .slice none 0 0, .int .u64 0] 47)).alloc (.cells #[.int .i64 0, .int .i64 0, .string ⟨#[]⟩, .bool false, .slice none 0 0, .slice none 0 0, .int .u64 0] 47)).heap.size = w.heap.size + 1 + 1 + 1) := hide (by rw [World.size_alloc, hsz2])
  have HV4 : Hid ((((w.alloc (.cells #[.int .u8 5, .int .i64 t, .string key, .string to, .string val] 40)).alloc (.cells #[.int .i64 0, .int .i64 0, .string ⟨#[]⟩, .bool false, .slice none 0 0, .slice none 0 0, .int .u64 0] 47)).alloc (.cells #[.int .i64 0, .int .i64 0, .string ⟨#[]⟩, .bool false, .slice none 0 0, .slice none 0 0, .int .u64 0] 47)).heap[w.heap.size + 1]? = some (.cells #[.int .i64 0, .int .i64 0, .string ⟨#[]⟩, .bool false, .slice none 0 0, .slice none 0 0, .int .u64 0] 47 (0, 0))) := hide ((Below.heap_alloc _ _ _ (by rw [hsz2]; omega)).trans (by have := heap_alloc_new (w.alloc (.cells #[.int .u8 5, .int .i64 t, .string key, .string to, .string val] 40)) (.cells #[.int .i64 0, .int .i64 0, .string ⟨#[]⟩, .bool false, .slice none 0 0, .slice none 0 0, .int .u64 0] 47); rw [hsz1] at this; exact this))
  have HV5 : Hid ((((w.alloc (.cells #[.int .u8 5, .int .i64 t, .string key, .string to, .string val] 40)).alloc (.cells #[.int .i64 0, .int .i64 0, .string ⟨#[]⟩, .bool false, .slice none 0 0, .slice none 0 0, .int .u64 0] 47)).alloc (.cells #[.int .i64 0, .int .i64 0, .string ⟨#[]⟩, .bool false, .slice none 0 0, .slice none 0 0, .int .u64 0] 47)).heap[w.heap.size + 1 + 1]? = some (.cells #[.int .i64 0, .int .i64 0, .string ⟨#[]⟩, .bool false, .slice none 0 0, .slice none 0 0, .int .u64 0] 47 (0, 0))) := hide (by have := heap_alloc_new ((w.alloc (.cells #[.int .u8 5, .int .i64 t, .string key, .string to, .string val] 40)).alloc (.cells #[.int .i64 0, .int .i64 0, .string ⟨#[]⟩, .bool false, .slice none 0 0, .slice none 0 0, .int .u64 0] 47)) (.cells #[.int .i64 0, .int .i64 0, .string ⟨#[]⟩, .bool false, .slice none 0 0, .slice none 0 0, .int .u64 0] 47); rw [hsz2] at this; exact this)
  clear h ht hsz1 hsz2
  go_enter Tryz.func26, Tryz.ntmps26
  go_wp2_with fail
  refine HC.out.mono ?_
  rintro e w1 ⟨rfl, hM, hF⟩
  have HM1 := hide hM
  have HF1 := hide hF
  have HW4 : Hid (w1.heap[w.heap.size + 1]? = some (.cells #[.int .i64 0, .int .i64 0, .string ⟨#[]⟩, .bool false, .slice none 0 0, .slice none 0 0, .int .u64 0] 47 (0, 0))) := hide ((hF.block _ (heap_lt HV4.out) (fun hn => hn (.inr ⟨by omega, by have := HSV.out; omega⟩))).trans HV4.out)
  have HW5 : Hid (w1.heap[w.heap.size + 1 + 1]? = some (.cells #[.int .i64 0, .int .i64 0, .string ⟨#[]⟩, .bool false, .slice none 0 0, .slice none 0 0, .int .u64 0] 47 (0, 0))) := hide ((hF.block _ (heap_lt HV5.out) (fun hn => hn (.inr ⟨by omega, by have := HSV.out; omega⟩))).trans HV5.out)
  clear hM hF HC
  have HX : Hid (∀ i, (w.heap.size ≤ i ∧ i < (((w.alloc (.cells #[.int .u8 5, .int .i64 t, .string key, .string to, .string val] 40)).alloc (.cells #[.int .i64 0, .int .i64 0, .string ⟨#[]⟩, .bool false, .slice none 0 0, .slice none 0 0, .int .u64 0] 47)).alloc (.cells #[.int .i64 0, .int .i64 0, .string ⟨#[]⟩, .bool false, .slice none 0 0, .slice none 0 0, .int .u64 0] 47)).heap.size) → (X i ∨ (w.heap.size ≤ i ∧ i < (((w.alloc (.cells #[.int .u8 5, .int .i64 t, .string key, .string to, .string val] 40)).alloc (.cells #[.int .i64 0, .int .i64 0, .string ⟨#[]⟩, .bool false, .slice none 0 0, .slice none 0 0, .int .u64 0] 47)).alloc (.cells #[.int .i64 0, .int .i64 0, .string ⟨#[]⟩, .bool false, .slice none 0 0, .slice none 0 0, .int .u64 0] 47)).heap.size))) := hide (fun i hi => .inr hi)
  have HX0 : Hid (∀ i, X i → (X i ∨ (w.heap.size ≤ i ∧ i < (((w.alloc (.cells #[.int .u8 5, .int .i64 t, .string key, .string to, .string val] 40)).alloc (.cells #[.int .i64 0, .int .i64 0, .string ⟨#[]⟩, .bool false, .slice none 0 0, .slice none 0 0, .int .u64 0] 47)).alloc (.cells #[.int .i64 0, .int .i64 0, .string ⟨#[]⟩, .bool false, .slice none 0 0, .slice none 0 0, .int .u64 0] 47)).heap.size))) := hide (fun i hi => .inl hi)
  have a0 : w1.cell? ⟨w.heap.size + 1 + 1, 0, none⟩ = some (.int .i64 0) := cell_blk HW5.out rfl
  have b0 : w1.cell? ⟨w.heap.size + 1, 0, none⟩ = some (.int .i64 0) := cell_blk HW4.out rfl
  have g0 : w1.frozen? ⟨w.heap.size + 1, 0, none⟩ = false := frz HW4.out 0
  have a1 : w1.cell? ⟨w.heap.size + 1 + 1, 1, none⟩ = some (.int .i64 0) := cell_blk HW5.out rfl
  have b1 : w1.cell? ⟨w.heap.size + 1, 1, none⟩ = some (.int .i64 0) := cell_blk HW4.out rfl
  have g1 : w1.frozen? ⟨w.heap.size + 1, 1, none⟩ = false := frz HW4.out 1
  have a2 : w1.cell? ⟨w.heap.size + 1 + 1, 2, none⟩ = some (.string ⟨#[]⟩) := cell_blk HW5.out rfl
  have b2 : w1.cell? ⟨w.heap.size + 1, 2, none⟩ = some (.string ⟨#[]⟩) := cell_blk HW4.out rfl
  have g2 : w1.frozen? ⟨w.heap.size + 1, 2, none⟩ = false := frz HW4.out 2
  have a3 : w1.cell? ⟨w.heap.size + 1 + 1, 3, none⟩ = some (.bool false) := cell_blk HW5.out rfl
  have b3 : w1.cell? ⟨w.heap.size + 1, 3, none⟩ = some (.bool false) := cell_blk HW4.out rfl
  have g3 : w1.frozen? ⟨w.heap.size + 1, 3, none⟩ = false := frz HW4.out 3
  have a4 : w1.cell? ⟨w.heap.size + 1 + 1, 4, none⟩ = some (.slice none 0 0) := cell_blk HW5.out rfl
  have b4 : w1.cell? ⟨w.heap.size + 1, 4, none⟩ = some (.slice none 0 0) := cell_blk HW4.out rfl
  have g4 : w1.frozen? ⟨w.heap.size + 1, 4, none⟩ = false := frz HW4.out 4
  have a5 : w1.cell? ⟨w.heap.size + 1 + 1, 5, none⟩ = some (.slice none 0 0) := cell_blk HW5.out rfl
  have b5 : w1.cell? ⟨w.heap.size + 1, 5, none⟩ = some (.slice none 0 0) := cell_blk HW4.out rfl
  have g5 : w1.frozen? ⟨w.heap.size + 1, 5, none⟩ = false := frz HW4.out 5
  have a6 : w1.cell? ⟨w.heap.size + 1 + 1, 6, none⟩ = some (.int .u64 0) := cell_blk HW5.out rfl
  have b6 : w1.cell? ⟨w.heap.size + 1, 6, none⟩ = some (.int .u64 0) := cell_blk HW4.out rfl
  have g6 : w1.frozen? ⟨w.heap.size + 1, 6, none⟩ = false := frz HW4.out 6
  have f0 : w1.frozen? ⟨w.heap.size + 1 + 1, 0, none⟩ = false := frz HW5.out 0
  have HT : Hid (((((((((w1.setCell ⟨w.heap.size + 1 + 1, 0, none⟩ (.int .i64 (mWrite ms t ⟨key, ⟨#[]⟩, true⟩).2)).setCell ⟨w.heap.size + 1, 0, none⟩ (.int .i64 (mWrite ms t ⟨key, ⟨#[]⟩, true⟩).2)).setCell ⟨w.heap.size + 1, 1, none⟩ (.int .i64 0)).setCell ⟨w.heap.size + 1, 2, none⟩ (.string ⟨#[]⟩)).setCell ⟨w.heap.size + 1, 3, none⟩ (.bool false)).setCell ⟨w.heap.size + 1, 4, none⟩ (.slice none 0 0)).setCell ⟨w.heap.size + 1, 5, none⟩ (.slice none 0 0)).setCell ⟨w.heap.size + 1, 6, none⟩ (.int .u64 0)).heap[w.heap.size + 1]? = some (.cells #[.int .i64 (mWrite ms t ⟨key, ⟨#[]⟩, true⟩).2, .int .i64 0, .string ⟨#[]⟩, .bool false, .slice none 0 0, .slice none 0 0, .int .u64 0] 47 (0, 0))) := hide (by
    have p0 : (w1.setCell ⟨w.heap.size + 1 + 1, 0, none⟩ (.int .i64 (mWrite ms t ⟨key, ⟨#[]⟩, true⟩).2)).heap[w.heap.size + 1]? = some (.cells #[.int .i64 0, .int .i64 0, .string ⟨#[]⟩, .bool false, .slice none 0 0, .slice none 0 0, .int .u64 0] 47 (0, 0)) := (Below.heap_setCell _ _ _ _ (by simp)).trans (HW4.out)
    have p1 := blk_set2 (j := 0) p0 (.int .i64 (mWrite ms t ⟨key, ⟨#[]⟩, true⟩).2)
    have p2 := blk_set2 (j := 1) p1 (.int .i64 0)
    have p3 := blk_set2 (j := 2) p2 (.string ⟨#[]⟩)
    have p4 := blk_set2 (j := 3) p3 (.bool false)
    have p5 := blk_set2 (j := 4) p4 (.slice none 0 0)
    have p6 := blk_set2 (j := 5) p5 (.slice none 0 0)
    have p7 := blk_set2 (j := 6) p6 (.int .u64 0)
    simpa using p7)
  have HFE : Hid (Frm (fun i => ¬ X i) w ((((((((w1.setCell ⟨w.heap.size + 1 + 1, 0, none⟩ (.int .i64 (mWrite ms t ⟨key, ⟨#[]⟩, true⟩).2)).setCell ⟨w.heap.size + 1, 0, none⟩ (.int .i64 (mWrite ms t ⟨key, ⟨#[]⟩, true⟩).2)).setCell ⟨w.heap.size + 1, 1, none⟩ (.int .i64 0)).setCell ⟨w.heap.size + 1, 2, none⟩ (.string ⟨#[]⟩)).setCell ⟨w.heap.size + 1, 3, none⟩ (.bool false)).setCell ⟨w.heap.size + 1, 4, none⟩ (.slice none 0 0)).setCell ⟨w.heap.size + 1, 5, none⟩ (.slice none 0 0)).setCell ⟨w.heap.size + 1, 6, none⟩ (.int .u64 0)) ∧ Mn X ((((((((w1.setCell ⟨w.heap.size + 1 + 1, 0, none⟩ (.int .i64 (mWrite ms t ⟨key, ⟨#[]⟩, true⟩).2)).setCell ⟨w.heap.size + 1, 0, none⟩ (.int .i64 (mWrite ms t ⟨key, ⟨#[]⟩, true⟩).2)).setCell ⟨w.heap.size + 1, 1, none⟩ (.int .i64 0)).setCell ⟨w.heap.size + 1, 2, none⟩ (.string ⟨#[]⟩)).setCell ⟨w.heap.size + 1, 3, none⟩ (.bool false)).setCell ⟨w.heap.size + 1, 4, none⟩ (.slice none 0 0)).setCell ⟨w.heap.size + 1, 5, none⟩ (.slice none 0 0)).setCell ⟨w.heap.size + 1, 6, none⟩ (.int .u64 0)) g (mWrite ms t ⟨key, ⟨#[]⟩, true⟩).1) := hide (by
    have h0 : Frm (fun i => ¬ X i) w w1 := ⟨by rw [HF1.out.os]; exact HB.out.os, by rw [HF1.out.tape]; exact HB.out.tape, by rw [HF1.out.output]; exact HB.out.output, Nat.le_trans HB.out.size HF1.out.size, fun i hi hn => (HF1.out.block i (Nat.lt_of_lt_of_le hi HB.out.size) (fun hq => hq (.inl (Classical.not_not.1 hn)))).trans (HB.out.block i hi)⟩
    have hx5 : w.heap.size ≤ w.heap.size + 1 + 1 ∧ w.heap.size + 1 + 1 < (((w.alloc (.cells #[.int .u8 5, .int .i64 t, .string key, .string to, .string val] 40)).alloc (.cells #[.int .i64 0, .int .i64 0, .string ⟨#[]⟩, .bool false, .slice none 0 0, .slice none 0 0, .int .u64 0] 47)).alloc (.cells #[.int .i64 0, .int .i64 0, .string ⟨#[]⟩, .bool false, .slice none 0 0, .slice none 0 0, .int .u64 0] 47)).heap.size := ⟨by omega, by have := HSV.out; omega⟩
    have hx4 : w.heap.size ≤ w.heap.size + 1 ∧ w.heap.size + 1 < (((w.alloc (.cells #[.int .u8 5, .int .i64 t, .string key, .string to, .string val] 40)).alloc (.cells #[.int .i64 0, .int .i64 0, .string ⟨#[]⟩, .bool false, .slice none 0 0, .slice none 0 0, .int .u64 0] 47)).alloc (.cells #[.int .i64 0, .int .i64 0, .string ⟨#[]⟩, .bool false, .slice none 0 0, .slice none 0 0, .int .u64 0] 47)).heap.size := ⟨by omega, by have := HSV.out; omega⟩
    exact ⟨(Frm.setFar (Frm.setFar (Frm.setFar (Frm.setFar (Frm.setFar (Frm.setFar (Frm.setFar (Frm.setFar h0 (by simp; omega) _) (by simp) _) (by simp) _) (by simp) _) (by simp) _) (by simp) _) (by simp) _) (by simp) _), Mn.mono (Mn.setX (Mn.setX (Mn.setX (Mn.setX (Mn.setX (Mn.setX (Mn.setX (Mn.setX HM1.out (HX.out _ hx5) _) (HX.out _ hx4) _) (HX.out _ hx4) _) (HX.out _ hx4) _) (HX.out _ hx4) _) (HX.out _ hx4) _) (HX.out _ hx4) _) (HX.out _ hx4) _) (fun i hi => HX0.out i hi)⟩)
  clear HM1 HF1 HV4 HV5 HW4 HW5 HM HB HSV
  go_wp2
  refine bodyPost_ret (results_cell_row (P := Tryz.prog) (p := 4) (ty := 47) rfl _ _ _ 47 _ (0, 0) _ rfl HT.out Tryz.underlying47 rfl (by kernel_rfl)) rfl ?_
  exact ⟨rfl, HFE.out.2, HFE.out.1⟩
set_option maxHeartbeats 4000000 in
theorem call_beginE (X : Nat → Prop) (w : World) (g : Nat) (ms : Mg) (h : Mn X w g ms) (t : Int) (ht : -9223372036854775808 ≤ t ∧ t ≤ 9223372036854775807) (key to val : ByteArray) (hlast : ms.last + 1 < 4611686018427387904) :
    Calls Tryz.prog 26 #[.pointer (some ⟨g, 0, none⟩), .agg #[.int .u8 1, .int .i64 t, .string key, .string to, .string val]] w fun e w' => e = .returned (.agg #[.int .i64 (mBegin ms).2.2, .int .i64 (mBegin ms).2.1, .string ⟨#[]⟩, .bool false, .slice none 0 0, .slice none 0 0, .int .u64 0]) ∧ Mn X w' g (mBegin ms).1 ∧ Frm (fun i => ¬ X i) w w' := by
  have HB : Hid (Below w.heap.size w (((w.alloc (.cells #[.int .u8 1, .int .i64 t, .string key, .string to, .string val] 40)).alloc (.cells #[.int .i64 0, .int .i64 0, .string ⟨#[]⟩, .bool false, .slice none 0 0, .slice none 0 0, .int .u64 0] 47)).alloc (.cells #[.int .i64 0, .int .i64 0, .string ⟨#[]⟩, .bool false, .slice none 0 0, .slice none 0 0, .int .u64 0] 47))) := hide ((((Below.refl _ w).alloc (Nat.le_refl _) _).alloc (by simp) _).alloc (by simp; omega) _)
  have HM := hide (h.news HB.out)
  have HC := hide (mn_begin _ _ g ms HM.out hlast)
  have hsz1 : (w.alloc (.cells #[.int .u8 1, .int .i64 t, .string key, .string to, .string val] 40)).heap.size = w.heap.size + 1 := World.size_alloc _ _
  have hsz2 : ((w.alloc (.cells #[.int .u8 1, .int .i64 t, .string key, .string to, .string val] 40)).alloc (.cells #[.int .i64 0, .int .i64 0, .string ⟨#[]⟩, .bool false, .slice none 0 0, .slice none 0 0, .int .u64 0] 47)).heap.size = w.heap.size + 1 + 1 := by rw [World.size_alloc, hsz1]
  have HSV : Hid ((((w.alloc (.cells #[.int .u8 1, .int .i64 t, .string key, .string to, .string val] 40)).alloc (.cells #[.int .i64 0, .int .i64 0, .string ⟨#[]⟩, .bool false, .slice none 0 0, .slice none 0 0, .int .u64 0] 47)).alloc (.cells #[.int .i64 0, .int .i64 0, .string ⟨#[]⟩, .bool false, .slice none 0 0, .slice none 0 0, .int .u64 0] 47)).heap.size = w.heap.size + 1 + 1 + 1) := hide (by rw [World.size_alloc, hsz2])
  have HV4 : Hid ((((w.alloc (.cells #[.int .u8 1, .int .i64 t, .string key, .string to, .string val] 40)).alloc (.cells #[.int .i64 0, .int .i64 0, .string ⟨#[]⟩, .bool false, .slice none 0 0, .slice none 0 0, .int .u64 0] 47)).alloc (.cells #[.int .i64 0, .int .i64 0, .string ⟨#[]⟩, .bool false, .slice none 0 0, .slice none 0 0, .int .u64 0] 47)).heap[w.heap.size + 1]? = some (.cells #[.int .i64 0, .int .i64 0, .string ⟨#[]⟩, .bool false, .slice none 0 0, .slice none 0 0, .int .u64 0] 47 (0, 0))) := hide ((Below.heap_alloc _ _ _ (by rw [hsz2]; omega)).trans (by have := heap_alloc_new (w.alloc (.cells #[.int .u8 1, .int .i64 t, .string key, .string to, .string val] 40)) (.cells #[.int .i64 0, .int .i64 0, .string ⟨#[]⟩, .bool false, .slice none 0 0, .slice none 0 0, .int .u64 0] 47); rw [hsz1] at this; exact this))
  have HV5 : Hid ((((w.alloc (.cells #[.int .u8 1, .int .i64 t, .string key, .string to, .string val] 40)).alloc (.cells #[.int .i64 0, .int .i64 0, .string ⟨#[]⟩, .bool false, .slice none 0 0, .slice none 0 0, .int .u64 0] 47)).alloc (.cells #[.int .i64 0, .int .i64 0, .string ⟨#[]⟩, .bool false, .slice none 0 0, .slice none 0 0, .int .u64 0] 47)).heap[w.heap.size + 1 + 1]? = some (.cells #[.int .i64 0, .int .i64 0, .string ⟨#[]⟩, .bool false, .slice none 0 0, .slice none 0 0, .int .u64 0] 47 (0, 0))) := hide (by have := heap_alloc_new ((w.alloc (.cells #[.int .u8 1, .int .i64 t, .string key, .string to, .string val] 40)).alloc (.cells #[.int .i64 0, .int .i64 0, .string ⟨#[]⟩, .bool false, .slice none 0 0, .slice none 0 0, .int .u64 0] 47)) (.cells #[.int .i64 0, .int .i64 0, .string ⟨#[]⟩, .bool false, .slice none 0 0, .slice none 0 0, .int .u64 0] 47); rw [hsz2] at this; exact this)
  clear h ht hsz1 hsz2
  go_enter Tryz.func26, Tryz.ntmps26
  go_wp2_with fail
  refine HC.out.mono ?_
  rintro e w1 ⟨rfl, hM, hF⟩
  have HM1 := hide hM
  have HF1 := hide hF
  have HW4 : Hid (w1.heap[w.heap.size + 1]? = some (.cells #[.int .i64 0, .int .i64 0, .string ⟨#[]⟩, .bool false, .slice none 0 0, .slice none 0 0, .int .u64 0] 47 (0, 0))) := hide ((hF.block _ (heap_lt HV4.out) (fun hn => hn (.inr ⟨by omega, by have := HSV.out; omega⟩))).trans HV4.out)
  have HW5 : Hid (w1.heap[w.heap.size + 1 + 1]? = some (.cells #[.int .i64 0, .int .i64 0, .string ⟨#[]⟩, .bool false, .slice none 0 0, .slice none 0 0, .int .u64 0] 47 (0, 0))) := hide ((hF.block _ (heap_lt HV5.out) (fun hn => hn (.inr ⟨by omega, by have := HSV.out; omega⟩))).trans HV5.out)
  clear hM hF HC
  have HX : Hid (∀ i, (w.heap.size ≤ i ∧ i < (((w.alloc (.cells #[.int .u8 1, .int .i64 t, .string key, .string to, .string val] 40)).alloc (.cells #[.int .i64 0, .int .i64 0, .string ⟨#[]⟩, .bool false, .slice none 0 0, .slice none 0 0, .int .u64 0] 47)).alloc (.cells #[.int .i64 0, .int .i64 0, .string ⟨#[]⟩, .bool false, .slice none 0 0, .slice none 0 0, .int .u64 0] 47)).heap.size) → (X i ∨ (w.heap.size ≤ i ∧ i < (((w.alloc (.cells #[.int .u8 1, .int .i64 t, .string key, .string to, .string val] 40)).alloc (.cells #[.int .i64 0, .int .i64 0, .string ⟨#[]⟩, .bool false, .slice none 0 0, .slice none 0 0, .int .u64 0] 47)).alloc (.cells #[.int .i64 0, .int .i64 0, .string ⟨#[]⟩, .bool false, .slice none 0 0, .slice none 0 0, .int .u64 0] 47)).heap.size))) := hide (fun i hi => .inr hi)
  have HX0 : Hid (∀ i, X i → (X i ∨ (w.heap.size ≤ i ∧ i < (((w.alloc (.cells #[.int .u8 1, .int .i64 t, .string key, .string to, .string val] 40)).alloc (.cells #[.int .i64 0, .int .i64 0, .string ⟨#[]⟩, .bool false, .slice none 0 0, .slice none 0 0, .int .u64 0] 47)).alloc (.cells #[.int .i64 0, .int .i64 0, .string ⟨#[]⟩, .bool false, .slice none 0 0, .slice none 0 0, .int .u64 0] 47)).heap.size))) := hide (fun i hi => .inl hi)
  have a0 : w1.cell? ⟨w.heap.size + 1 + 1, 0, none⟩ = some (.int .i64 0) := cell_blk HW5.out rfl
  have b0 : w1.cell? ⟨w.heap.size + 1, 0, none⟩ = some (.int .i64 0) := cell_blk HW4.out rfl
  have g0 : w1.frozen? ⟨w.heap.size + 1, 0, none⟩ = false := frz HW4.out 0
  have a1 : w1.cell? ⟨w.heap.size + 1 + 1, 1, none⟩ = some (.int .i64 0) := cell_blk HW5.out rfl
  have b1 : w1.cell? ⟨w.heap.size + 1, 1, none⟩ = some (.int .i64 0) := cell_blk HW4.out rfl
  have g1 : w1.frozen? ⟨w.heap.size + 1, 1, none⟩ = false := frz HW4.out 1
  have a2 : w1.cell? ⟨w.heap.size + 1 + 1, 2, none⟩ = some (.string ⟨#[]⟩) := cell_blk HW5.out rfl
  have b2 : w1.cell? ⟨w.heap.size + 1, 2, none⟩ = some (.string ⟨#[]⟩) := cell_blk HW4.out rfl
  have g2 : w1.frozen? ⟨w.heap.size + 1, 2, none⟩ = false := frz HW4.out 2
  have a3 : w1.cell? ⟨w.heap.size + 1 + 1, 3, none⟩ = some (.bool false) := cell_blk HW5.out rfl
  have b3 : w1.cell? ⟨w.heap.size + 1, 3, none⟩ = some (.bool false) := cell_blk HW4.out rfl
  have g3 : w1.frozen? ⟨w.heap.size + 1, 3, none⟩ = false := frz HW4.out 3
  have a4 : w1.cell? ⟨w.heap.size + 1 + 1, 4, none⟩ = some (.slice none 0 0) := cell_blk HW5.out rfl
  have b4 : w1.cell? ⟨w.heap.size + 1, 4, none⟩ = some (.slice none 0 0) := cell_blk HW4.out rfl
  have g4 : w1.frozen? ⟨w.heap.size + 1, 4, none⟩ = false := frz HW4.out 4
  have a5 : w1.cell? ⟨w.heap.size + 1 + 1, 5, none⟩ = some (.slice none 0 0) := cell_blk HW5.out rfl
  have b5 : w1.cell? ⟨w.heap.size + 1, 5, none⟩ = some (.slice none 0 0) := cell_blk HW4.out rfl
  have g5 : w1.frozen? ⟨w.heap.size + 1, 5, none⟩ = false := frz HW4.out 5
  have a6 : w1.cell? ⟨w.heap.size + 1 + 1, 6, none⟩ = some (.int .u64 0) := cell_blk HW5.out rfl
  have b6 : w1.cell? ⟨w.heap.size + 1, 6, none⟩ = some (.int .u64 0) := cell_blk HW4.out rfl
  have g6 : w1.frozen? ⟨w.heap.size + 1, 6, none⟩ = false := frz HW4.out 6
  have f1 : w1.frozen? ⟨w.heap.size + 1 + 1, 1, none⟩ = false := frz HW5.out 1
  have f0 : w1.frozen? ⟨w.heap.size + 1 + 1, 0, none⟩ = false := frz HW5.out 0
  have HT : Hid ((((((((((w1.setCell ⟨w.heap.size + 1 + 1, 1, none⟩ (.int .i64 (mBegin ms).2.1)).setCell ⟨w.heap.size + 1 + 1, 0, none⟩ (.int .i64 (mBegin ms).2.2)).setCell ⟨w.heap.size + 1, 0, none⟩ (.int .i64 (mBegin ms).2.2)).setCell ⟨w.heap.size + 1, 1, none⟩ (.int .i64 (mBegin ms).2.1)).setCell ⟨w.heap.size + 1, 2, none⟩ (.string ⟨#[]⟩)).setCell ⟨w.heap.size + 1, 3, none⟩ (.bool false)).setCell ⟨w.heap.size + 1, 4, none⟩ (.slice none 0 0)).setCell ⟨w.heap.size + 1, 5, none⟩ (.slice none 0 0)).setCell ⟨w.heap.size + 1, 6, none⟩ (.int .u64 0)).heap[w.heap.size + 1]? = some (.cells #[.int .i64 (mBegin ms).2.2, .int .i64 (mBegin ms).2.1, .string ⟨#[]⟩, .bool false, .slice none 0 0, .slice none 0 0, .int .u64 0] 47 (0, 0))) := hide (by
    have p0 : ((w1.setCell ⟨w.heap.size + 1 + 1, 1, none⟩ (.int .i64 (mBegin ms).2.1)).setCell ⟨w.heap.size + 1 + 1, 0, none⟩ (.int .i64 (mBegin ms).2.2)).heap[w.heap.size + 1]? = some (.cells #[.int .i64 0, .int .i64 0, .string ⟨#[]⟩, .bool false, .slice none 0 0, .slice none 0 0, .int .u64 0] 47 (0, 0)) := (Below.heap_setCell _ _ _ _ (by simp)).trans ((Below.heap_setCell _ _ _ _ (by simp)).trans (HW4.out))
    have p1 := blk_set2 (j := 0) p0 (.int .i64 (mBegin ms).2.2)
    have p2 := blk_set2 (j := 1) p1 (.int .i64 (mBegin ms).2.1)
    have p3 := blk_set2 (j := 2) p2 (.string ⟨#[]⟩)
    have p4 := blk_set2 (j := 3) p3 (.bool false)
    have p5 := blk_set2 (j := 4) p4 (.slice none 0 0)
    have p6 := blk_set2 (j := 5) p5 (.slice none 0 0)
    have p7 := blk_set2 (j := 6) p6 (.int .u64 0)
    simpa using p7)
  have HFE : Hid (Frm (fun i => ¬ X i) w (((((((((w1.setCell ⟨w.heap.size + 1 + 1, 1, none⟩ (.int .i64 (mBegin ms).2.1)).setCell ⟨w.heap.size + 1 + 1, 0, none⟩ (.int .i64 (mBegin ms).2.2)).setCell ⟨w.heap.size + 1, 0, none⟩ (.int .i64 (mBegin ms).2.2)).setCell ⟨w.heap.size + 1, 1, none⟩ (.int .i64 (mBegin ms).2.1)).setCell ⟨w.heap.size + 1, 2, none⟩ (.string ⟨#[]⟩)).setCell ⟨w.heap.size + 1, 3, none⟩ (.bool false)).setCell ⟨w.heap.size + 1, 4, none⟩ (.slice none 0 0)).setCell ⟨w.heap.size + 1, 5, none⟩ (.slice none 0 0)).setCell ⟨w.heap.size + 1, 6, none⟩ (.int .u64 0)) ∧ Mn X (((((((((w1.setCell ⟨w.heap.size + 1 + 1, 1, none⟩ (.int .i64 (mBegin ms).2.1)).setCell ⟨w.heap.size + 1 + 1, 0, none⟩ (.int .i64 (mBegin ms).2.2)).setCell ⟨w.heap.size + 1, 0, none⟩ (.int .i64 (mBegin ms).2.2)).setCell ⟨w.heap.size + 1, 1, none⟩ (.int .i64 (mBegin ms).2.1)).setCell ⟨w.heap.size + 1, 2, none⟩ (.string ⟨#[]⟩)).setCell ⟨w.heap.size + 1, 3, none⟩ (.bool false)).setCell ⟨w.heap.size + 1, 4, none⟩ (.slice none 0 0)).setCell ⟨w.heap.size + 1, 5, none⟩ (.slice none 0 0)).setCell ⟨w.heap.size + 1, 6, none⟩ (.int .u64 0)) g (mBegin ms).1) := hide (by
    have h0 : Frm (fun i => ¬ X i) w w1 := ⟨by rw [HF1.out.os]; exact HB.out.os, by rw [HF1.out.tape]; exact HB.out.tape, by rw [HF1.out.output]; exact HB.out.output, Nat.le_trans HB.out.size HF1.out.size, fun i hi hn => (HF1.out.block i (Nat.lt_of_lt_of_le hi HB.out.size) (fun hq => hq (.inl (Classical.not_not.1 hn)))).trans (HB.out.block i hi)⟩
    have hx5 : w.heap.size ≤ w.heap.size + 1 + 1 ∧ w.heap.size + 1 + 1 < (((w.alloc (.cells #[.int .u8 1, .int .i64 t, .string key, .string to, .string val] 40)).alloc (.cells #[.int .i64 0, .int .i64 0, .string ⟨#[]⟩, .bool false, .slice none 0 0, .slice none 0 0, .int .u64 0] 47)).alloc (.cells #[.int .i64 0, .int .i64 0, .string ⟨#[]⟩, .bool false, .slice none 0 0, .slice none 0 0, .int .u64 0] 47)).heap.size := ⟨by omega, by have := HSV.out; omega⟩
    have hx4 : w.heap.size ≤ w.heap.size + 1 ∧ w.heap.size + 1 < (((w.alloc (.cells #[.int .u8 1, .int .i64 t, .string key, .string to, .string val] 40)).alloc (.cells #[.int .i64 0, .int .i64 0, .string ⟨#[]⟩, .bool false, .slice none 0 0, .slice none 0 0, .int .u64 0] 47)).alloc (.cells #[.int .i64 0, .int .i64 0, .string ⟨#[]⟩, .bool false, .slice none 0 0, .slice none 0 0, .int .u64 0] 47)).heap.size := ⟨by omega, by have := HSV.out; omega⟩
    exact ⟨(Frm.setFar (Frm.setFar (Frm.setFar (Frm.setFar (Frm.setFar (Frm.setFar (Frm.setFar (Frm.setFar (Frm.setFar h0 (by simp; omega) _) (by simp; omega) _) (by simp) _) (by simp) _) (by simp) _) (by simp) _) (by simp) _) (by simp) _) (by simp) _), Mn.mono (Mn.setX (Mn.setX (Mn.setX (Mn.setX (Mn.setX (Mn.setX (Mn.setX (Mn.setX (Mn.setX HM1.out (HX.out _ hx5) _) (HX.out _ hx5) _) (HX.out _ hx4) _) (HX.out _ hx4) _) (HX.out _ hx4) _) (HX.out _ hx4) _) (HX.out _ hx4) _) (HX.out _ hx4) _) (HX.out _ hx4) _) (fun i hi => HX0.out i hi)⟩)
  clear HM1 HF1 HV4 HV5 HW4 HW5 HM HB HSV
  go_wp2
  refine bodyPost_ret (results_cell_row (P := Tryz.prog) (p := 4) (ty := 47) rfl _ _ _ 47 _ (0, 0) _ rfl HT.out Tryz.underlying47 rfl (by kernel_rfl)) rfl ?_
  exact ⟨rfl, HFE.out.2, HFE.out.1⟩
set_option maxHeartbeats 4000000 in
theorem call_abortE (X : Nat → Prop) (w : World) (g : Nat) (ms : Mg) (h : Mn X w g ms) (t : Int) (ht : -9223372036854775808 ≤ t ∧ t ≤ 9223372036854775807) (key to val : ByteArray) :
    Calls Tryz.prog 26 #[.pointer (some ⟨g, 0, none⟩), .agg #[.int .u8 7, .int .i64 t, .string key, .string to, .string val]] w fun e w' => e = .returned (.agg #[.int .i64 (mAbort ms t).2, .int .i64 0, .string ⟨#[]⟩, .bool false, .slice none 0 0, .slice none 0 0, .int .u64 0]) ∧ Mn X w' g (mAbort ms t).1 ∧ Frm (fun i => ¬ X i) w w' := by
  have HB : Hid (Below w.heap.size w (((w.alloc (.cells #[.int .u8 7, .int .i64 t, .string key, .string to, .string val] 40)).alloc (.cells #[.int .i64 0, .int .i64 0, .string ⟨#[]⟩, .bool false, .slice none 0 0, .slice none 0 0, .int .u64 0] 47)).alloc (.cells #[.int .i64 0, .int .i64 0, .string ⟨#[]⟩, .bool false, .slice none 0 0, .slice none 0 0, .int .u64 0] 47))) := hide ((((Below.refl _ w).alloc (Nat.le_refl _) _).alloc (by simp) _).alloc (by simp; omega) _)
  have HM := hide (h.news HB.out)
  have HC := hide (mn_abort _ _ g ms HM.out t ht)
  have hsz1 : (w.alloc (.cells #[.int .u8 7, .int .i64 t, .string key, .string to, .string val] 40)).heap.size = w.heap.size + 1 := World.size_alloc _ _
  have hsz2 : ((w.alloc (.cells #[.int .u8 7, .int .i64 t, .string key, .string to, .string val] 40)).alloc (.cells #[.int .i64 0, .int .i64 0, .string ⟨#[]⟩, .bool false, .slice none 0 0, .slice none 0 0, .int .u64 0] 47)).heap.size = w.heap.size + 1 + 1 := by rw [World.size_alloc, hsz1]
  have HSV : Hid ((((w.alloc (.cells #[.int .u8 7, .int .i64 t, .string key, .string to, .string val] 40)).alloc (.cells #[.int .i64 0, .int .i64 0, .string ⟨#[]⟩, .bool false, .slice none 0 0, .slice none 0 0, .int .u64 0] 47)).alloc (.cells #[.int .i64 0, .int .i64 0, .string ⟨#[]⟩, .bool false, .slice none 0 0, .slice none 0 0, .int .u64 0] 47)).heap.size = w.heap.size + 1 + 1 + 1) := hide (by rw [World.size_alloc, hsz2])
  have HV4 : Hid ((((w.alloc (.cells #[.int .u8 7, .int .i64 t, .string key, .string to, .string val] 40)).alloc (.cells #[.int .i64 0, .int .i64 0, .string ⟨#[]⟩, .bool false, .slice none 0 0, .slice none 0 0, .int .u64 0] 47)).alloc (.cells #[.int .i64 0, .int .i64 0, .string ⟨#[]⟩, .bool false, .slice none 0 0, .slice none 0 0, .int .u64 0] 47)).heap[w.heap.size + 1]? = some (.cells #[.int .i64 0, .int .i64 0, .string ⟨#[]⟩, .bool false, .slice none 0 0, .slice none 0 0, .int .u64 0] 47 (0, 0))) := hide ((Below.heap_alloc _ _ _ (by rw [hsz2]; omega)).trans (by have := heap_alloc_new (w.alloc (.cells #[.int .u8 7, .int .i64 t, .string key, .string to, .string val] 40)) (.cells #[.int .i64 0, .int .i64 0, .string ⟨#[]⟩, .bool false, .slice none 0 0, .slice none 0 0, .int .u64 0] 47); rw [hsz1] at this; exact this))
  have HV5 : Hid ((((w.alloc (.cells #[.int .u8 7, .int .i64 t, .string key, .string to, .string val] 40)).alloc (.cells #[.int .i64 0, .int .i64 0, .string ⟨#[]⟩, .bool false, .slice none 0 0, .slice none 0 0, .int .u64 0] 47)).alloc (.cells #[.int .i64 0, .int .i64 0, .string ⟨#[]⟩, .bool false, .slice none 0 0, .slice none 0 0, .int .u64 0] 47)).heap[w.heap.size + 1 + 1]? = some (.cells #[.int .i64 0, .int .i64 0, .string ⟨#[]⟩, .bool false, .slice none 0 0, .slice none 0 0, .int .u64 0] 47 (0, 0))) := hide (by have := heap_alloc_new ((w.alloc (.cells #[.int .u8 7, .int .i64 t, .string key, .string to, .string val] 40)).alloc (.cells #[.int .i64 0, .int .i64 0, .string ⟨#[]⟩, .bool false, .slice none 0 0, .slice none 0 0, .int .u64 0] 47)) (.cells #[.int .i64 0, .int .i64 0, .string ⟨#[]⟩, .bool false, .slice none 0 0, .slice none 0 0, .int .u64 0] 47); rw [hsz2] at this; exact this)
  clear h ht hsz1 hsz2
  go_enter Tryz.func26, Tryz.ntmps26
  go_wp2_with fail
  refine HC.out.mono ?_
  rintro e w1 ⟨rfl, hM, hF⟩
  have HM1 := hide hM
  have HF1 := hide hF
  have HW4 : Hid (w1.heap[w.heap.size + 1]? = some (.cells #[.int .i64 0, .int .i64 0, .string ⟨#[]⟩, .bool false, .slice none 0 0, .slice none 0 0, .int .u64 0] 47 (0, 0))) := hide ((hF.block _ (heap_lt HV4.out) (fun hn => hn (.inr ⟨by omega, by have := HSV.out; omega⟩))).trans HV4.out)
  have HW5 : Hid (w1.heap[w.heap.size + 1 + 1]? = some (.cells #[.int .i64 0, .int .i64 0, .string ⟨#[]⟩, .bool false, .slice none 0 0, .slice none 0 0, .int .u64 0] 47 (0, 0))) := hide ((hF.block _ (heap_lt HV5.out) (fun hn => hn (.inr ⟨by omega, by have := HSV.out; omega⟩))).trans HV5.out)
  clear hM hF HC
  have HX : Hid (∀ i, (w.heap.size ≤ i ∧ i < (((w.alloc (.cells #[.int .u8 7, .int .i64 t, .string key, .string to, .string val] 40)).alloc (.cells #[.int .i64 0, .int .i64 0, .string ⟨#[]⟩, .bool false, .slice none 0 0, .slice none 0 0, .int .u64 0] 47)).alloc (.cells #[.int .i64 0, .int .i64 0, .string ⟨#[]⟩, .bool false, .slice none 0 0, .slice none 0 0, .int .u64 0] 47)).heap.size) → (X i ∨ (w.heap.size ≤ i ∧ i < (((w.alloc (.cells #[.int .u8 7, .int .i64 t, .string key, .string to, .string val] 40)).alloc (.cells #[.int .i64 0, .int .i64 0, .string ⟨#[]⟩, .bool false, .slice none 0 0, .slice none 0 0, .int .u64 0] 47)).alloc (.cells #[.int .i64 0, .int .i64 0, .string ⟨#[]⟩, .bool false, .slice none 0 0, .slice none 0 0, .int .u64 0] 47)).heap.size))) := hide (fun i hi => .inr hi)
  have HX0 : Hid (∀ i, X i → (X i ∨ (w.heap.size ≤ i ∧ i < (((w.alloc (.cells #[.int .u8 7, .int .i64 t, .string key, .string to, .string val] 40)).alloc (.cells #[.int .i64 0, .int .i64 0, .string ⟨#[]⟩, .bool false, .slice none 0 0, .slice none 0 0, .int .u64 0] 47)).alloc (.cells #[.int .i64 0, .int .i64 0, .string ⟨#[]⟩, .bool false, .slice none 0 0, .slice none 0 0, .int .u64 0] 47)).heap.size))) := hide (fun i hi => .inl hi)
  have a0 : w1.cell? ⟨w.heap.size + 1 + 1, 0, none⟩ = some (.int .i64 0) := cell_blk HW5.out rfl
  have b0 : w1.cell? ⟨w.heap.size + 1, 0, none⟩ = some (.int .i64 0) := cell_blk HW4.out rfl
  have g0 : w1.frozen? ⟨w.heap.size + 1, 0, none⟩ = false := frz HW4.out 0
  have a1 : w1.cell? ⟨w.heap.size + 1 + 1, 1, none⟩ = some (.int .i64 0) := cell_blk HW5.out rfl
  have b1 : w1.cell? ⟨w.heap.size + 1, 1, none⟩ = some (.int .i64 0) := cell_blk HW4.out rfl
  have g1 : w1.frozen? ⟨w.heap.size + 1, 1, none⟩ = false := frz HW4.out 1
  have a2 : w1.cell? ⟨w.heap.size + 1 + 1, 2, none⟩ = some (.string ⟨#[]⟩) := cell_blk HW5.out rfl
  have b2 : w1.cell? ⟨w.heap.size + 1, 2, none⟩ = some (.string ⟨#[]⟩) := cell_blk HW4.out rfl
  have g2 : w1.frozen? ⟨w.heap.size + 1, 2, none⟩ = false := frz HW4.out 2
  have a3 : w1.cell? ⟨w.heap.size + 1 + 1, 3, none⟩ = some (.bool false) := cell_blk HW5.out rfl
  have b3 : w1.cell? ⟨w.heap.size + 1, 3, none⟩ = some (.bool false) := cell_blk HW4.out rfl
  have g3 : w1.frozen? ⟨w.heap.size + 1, 3, none⟩ = false := frz HW4.out 3
  have a4 : w1.cell? ⟨w.heap.size + 1 + 1, 4, none⟩ = some (.slice none 0 0) := cell_blk HW5.out rfl
  have b4 : w1.cell? ⟨w.heap.size + 1, 4, none⟩ = some (.slice none 0 0) := cell_blk HW4.out rfl
  have g4 : w1.frozen? ⟨w.heap.size + 1, 4, none⟩ = false := frz HW4.out 4
  have a5 : w1.cell? ⟨w.heap.size + 1 + 1, 5, none⟩ = some (.slice none 0 0) := cell_blk HW5.out rfl
  have b5 : w1.cell? ⟨w.heap.size + 1, 5, none⟩ = some (.slice none 0 0) := cell_blk HW4.out rfl
  have g5 : w1.frozen? ⟨w.heap.size + 1, 5, none⟩ = false := frz HW4.out 5
  have a6 : w1.cell? ⟨w.heap.size + 1 + 1, 6, none⟩ = some (.int .u64 0) := cell_blk HW5.out rfl
  have b6 : w1.cell? ⟨w.heap.size + 1, 6, none⟩ = some (.int .u64 0) := cell_blk HW4.out rfl
  have g6 : w1.frozen? ⟨w.heap.size + 1, 6, none⟩ = false := frz HW4.out 6
  have f0 : w1.frozen? ⟨w.heap.size + 1 + 1, 0, none⟩ = false := frz HW5.out 0
  have HT : Hid (((((((((w1.setCell ⟨w.heap.size + 1 + 1, 0, none⟩ (.int .i64 (mAbort ms t).2)).setCell ⟨w.heap.size + 1, 0, none⟩ (.int .i64 (mAbort ms t).2)).setCell ⟨w.heap.size + 1, 1, none⟩ (.int .i64 0)).setCell ⟨w.heap.size + 1, 2, none⟩ (.string ⟨#[]⟩)).setCell ⟨w.heap.size + 1, 3, none⟩ (.bool false)).setCell ⟨w.heap.size + 1, 4, none⟩ (.slice none 0 0)).setCell ⟨w.heap.size + 1, 5, none⟩ (.slice none 0 0)).setCell ⟨w.heap.size + 1, 6, none⟩ (.int .u64 0)).heap[w.heap.size + 1]? = some (.cells #[.int .i64 (mAbort ms t).2, .int .i64 0, .string ⟨#[]⟩, .bool false, .slice none 0 0, .slice none 0 0, .int .u64 0] 47 (0, 0))) := hide (by
    have p0 : (w1.setCell ⟨w.heap.size + 1 + 1, 0, none⟩ (.int .i64 (mAbort ms t).2)).heap[w.heap.size + 1]? = some (.cells #[.int .i64 0, .int .i64 0, .string ⟨#[]⟩, .bool false, .slice none 0 0, .slice none 0 0, .int .u64 0] 47 (0, 0)) := (Below.heap_setCell _ _ _ _ (by simp)).trans (HW4.out)
    have p1 := blk_set2 (j := 0) p0 (.int .i64 (mAbort ms t).2)
    have p2 := blk_set2 (j := 1) p1 (.int .i64 0)
    have p3 := blk_set2 (j := 2) p2 (.string ⟨#[]⟩)
    have p4 := blk_set2 (j := 3) p3 (.bool false)
    have p5 := blk_set2 (j := 4) p4 (.slice none 0 0)
    have p6 := blk_set2 (j := 5) p5 (.slice none 0 0)
    have p7 := blk_set2 (j := 6) p6 (.int .u64 0)
    simpa using p7)
  have HFE : Hid (Frm (fun i => ¬ X i) w ((((((((w1.setCell ⟨w.heap.size + 1 + 1, 0, none⟩ (.int .i64 (mAbort ms t).2)).setCell ⟨w.heap.size + 1, 0, none⟩ (.int .i64 (mAbort ms t).2)).setCell ⟨w.heap.size + 1, 1, none⟩ (.int .i64 0)).setCell ⟨w.heap.size + 1, 2, none⟩ (.string ⟨#[]⟩)).setCell ⟨w.heap.size + 1, 3, none⟩ (.bool false)).setCell ⟨w.heap.size + 1, 4, none⟩ (.slice none 0 0)).setCell ⟨w.heap.size + 1, 5, none⟩ (.slice none 0 0)).setCell ⟨w.heap.size + 1, 6, none⟩ (.int .u64 0)) ∧ Mn X ((((((((w1.setCell ⟨w.heap.size + 1 + 1, 0, none⟩ (.int .i64 (mAbort ms t).2)).setCell ⟨w.heap.size + 1, 0, none⟩ (.int .i64 (mAbort ms t).2)).setCell ⟨w.heap.size + 1, 1, none⟩ (.int .i64 0)).setCell ⟨w.heap.size + 1, 2, none⟩ (.string ⟨#[]⟩)).setCell ⟨w.heap.size + 1, 3, none⟩ (.bool false)).setCell ⟨w.heap.size + 1, 4, none⟩ (.slice none 0 0)).setCell ⟨w.heap.size + 1, 5, none⟩ (.slice none 0 0)).setCell ⟨w.heap.size + 1, 6, none⟩ (.int .u64 0)) g (mAbort ms t).1) := hide (by
    have h0 : Frm (fun i => ¬ X i) w w1 := ⟨by rw [HF1.out.os]; exact HB.out.os, by rw [HF1.out.tape]; exact HB.out.tape, by rw [HF1.out.output]; exact HB.out.output, Nat.le_trans HB.out.size HF1.out.size, fun i hi hn => (HF1.out.block i (Nat.lt_of_lt_of_le hi HB.out.size) (fun hq => hq (.inl (Classical.not_not.1 hn)))).trans (HB.out.block i hi)⟩
    have hx5 : w.heap.size ≤ w.heap.size + 1 + 1 ∧ w.heap.size + 1 + 1 < (((w.alloc (.cells #[.int .u8 7, .int .i64 t, .string key, .string to, .string val] 40)).alloc (.cells #[.int .i64 0, .int .i64 0, .string ⟨#[]⟩, .bool false, .slice none 0 0, .slice none 0 0, .int .u64 0] 47)).alloc (.cells #[.int .i64 0, .int .i64 0, .string ⟨#[]⟩, .bool false, .slice none 0 0, .slice none 0 0, .int .u64 0] 47)).heap.size := ⟨by omega, by have := HSV.out; omega⟩
    have hx4 : w.heap.size ≤ w.heap.size + 1 ∧ w.heap.size + 1 < (((w.alloc (.cells #[.int .u8 7, .int .i64 t, .string key, .string to, .string val] 40)).alloc (.cells #[.int .i64 0, .int .i64 0, .string ⟨#[]⟩, .bool false, .slice none 0 0, .slice none 0 0, .int .u64 0] 47)).alloc (.cells #[.int .i64 0, .int .i64 0, .string ⟨#[]⟩, .bool false, .slice none 0 0, .slice none 0 0, .int .u64 0] 47)).heap.size := ⟨by omega, by have := HSV.out; omega⟩
    exact ⟨(Frm.setFar (Frm.setFar (Frm.setFar (Frm.setFar (Frm.setFar (Frm.setFar (Frm.setFar (Frm.setFar h0 (by simp; omega) _) (by simp) _) (by simp) _) (by simp) _) (by simp) _) (by simp) _) (by simp) _) (by simp) _), Mn.mono (Mn.setX (Mn.setX (Mn.setX (Mn.setX (Mn.setX (Mn.setX (Mn.setX (Mn.setX HM1.out (HX.out _ hx5) _) (HX.out _ hx4) _) (HX.out _ hx4) _) (HX.out _ hx4) _) (HX.out _ hx4) _) (HX.out _ hx4) _) (HX.out _ hx4) _) (HX.out _ hx4) _) (fun i hi => HX0.out i hi)⟩)
  clear HM1 HF1 HV4 HV5 HW4 HW5 HM HB HSV
  go_wp2
  refine bodyPost_ret (results_cell_row (P := Tryz.prog) (p := 4) (ty := 47) rfl _ _ _ 47 _ (0, 0) _ rfl HT.out Tryz.underlying47 rfl (by kernel_rfl)) rfl ?_
  exact ⟨rfl, HFE.out.2, HFE.out.1⟩
set_option maxHeartbeats 4000000 in
theorem call_scanE (X : Nat → Prop) (w : World) (g : Nat) (ms : Mg) (h : Mn X w g ms) (t : Int) (ht : -9223372036854775808 ≤ t ∧ t ≤ 9223372036854775807) (key to val : ByteArray) :
    Calls Tryz.prog 26 #[.pointer (some ⟨g, 0, none⟩), .agg #[.int .u8 3, .int .i64 t, .string key, .string to, .string val]] w fun e w' => ∃ (pv : Value) (l8 : List Pr), e = .returned (.agg #[.int .i64 (mScan ms t key to).2, .int .i64 0, .string ⟨#[]⟩, .bool false, pv, .slice none 0 0, .int .u64 0]) ∧ w'.ownsRow w.heap.size 62 2 pv l8.length (l8.flatMap prc) ∧ ScanL ms t key to l8 ∧ Mn (fun j => X j ∨ pv.ownBlock = some j) w' g (mScan ms t key to).1 ∧ Frm (fun i => ¬ X i) w w' := by
  have HB : Hid (Below w.heap.size w (((w.alloc (.cells #[.int .u8 3, .int .i64 t, .string key, .string to, .string val] 40)).alloc (.cells #[.int .i64 0, .int .i64 0, .string ⟨#[]⟩, .bool false, .slice none 0 0, .slice none 0 0, .int .u64 0] 47)).alloc (.cells #[.int .i64 0, .int .i64 0, .string ⟨#[]⟩, .bool false, .slice none 0 0, .slice none 0 0, .int .u64 0] 47))) := hide ((((Below.refl _ w).alloc (Nat.le_refl _) _).alloc (by simp) _).alloc (by simp; omega) _)
  have HM := hide (h.news HB.out)
  have HC := hide (mn_scan _ _ g ms HM.out t ht key to)
  have hsz1 : (w.alloc (.cells #[.int .u8 3, .int .i64 t, .string key, .string to, .string val] 40)).heap.size = w.heap.size + 1 := World.size_alloc _ _
  have hsz2 : ((w.alloc (.cells #[.int .u8 3, .int .i64 t, .string key, .string to, .string val] 40)).alloc (.cells #[.int .i64 0, .int .i64 0, .string ⟨#[]⟩, .bool false, .slice none 0 0, .slice none 0 0, .int .u64 0] 47)).heap.size = w.heap.size + 1 + 1 := by rw [World.size_alloc, hsz1]
  have HSV : Hid ((((w.alloc (.cells #[.int .u8 3, .int .i64 t, .string key, .string to, .string val] 40)).alloc (.cells #[.int .i64 0, .int .i64 0, .string ⟨#[]⟩, .bool false, .slice none 0 0, .slice none 0 0, .int .u64 0] 47)).alloc (.cells #[.int .i64 0, .int .i64 0, .string ⟨#[]⟩, .bool false, .slice none 0 0, .slice none 0 0, .int .u64 0] 47)).heap.size = w.heap.size + 1 + 1 + 1) := hide (by rw [World.size_alloc, hsz2])
  have HV4 : Hid ((((w.alloc (.cells #[.int .u8 3, .int .i64 t, .string key, .string to, .string val] 40)).alloc (.cells #[.int .i64 0, .int .i64 0, .string ⟨#[]⟩, .bool false, .slice none 0 0, .slice none 0 0, .int .u64 0] 47)).alloc (.cells #[.int .i64 0, .int .i64 0, .string ⟨#[]⟩, .bool false, .slice none 0 0, .slice none 0 0, .int .u64 0] 47)).heap[w.heap.size + 1]? = some (.cells #[.int .i64 0, .int .i64 0, .string ⟨#[]⟩, .bool false, .slice none 0 0, .slice none 0 0, .int .u64 0] 47 (0, 0))) := hide ((Below.heap_alloc _ _ _ (by rw [hsz2]; omega)).trans (by have := heap_alloc_new (w.alloc (.cells #[.int .u8 3, .int .i64 t, .string key, .string to, .string val] 40)) (.cells #[.int .i64 0, .int .i64 0, .string ⟨#[]⟩, .bool false, .slice none 0 0, .slice none 0 0, .int .u64 0] 47); rw [hsz1] at this; exact this))
  have HV5 : Hid ((((w.alloc (.cells #[.int .u8 3, .int .i64 t, .string key, .string to, .string val] 40)).alloc (.cells #[.int .i64 0, .int .i64 0, .string ⟨#[]⟩, .bool false, .slice none 0 0, .slice none 0 0, .int .u64 0] 47)).alloc (.cells #[.int .i64 0, .int .i64 0, .string ⟨#[]⟩, .bool false, .slice none 0 0, .slice none 0 0, .int .u64 0] 47)).heap[w.heap.size + 1 + 1]? = some (.cells #[.int .i64 0, .int .i64 0, .string ⟨#[]⟩, .bool false, .slice none 0 0, .slice none 0 0, .int .u64 0] 47 (0, 0))) := hide (by have := heap_alloc_new ((w.alloc (.cells #[.int .u8 3, .int .i64 t, .string key, .string to, .string val] 40)).alloc (.cells #[.int .i64 0, .int .i64 0, .string ⟨#[]⟩, .bool false, .slice none 0 0, .slice none 0 0, .int .u64 0] 47)) (.cells #[.int .i64 0, .int .i64 0, .string ⟨#[]⟩, .bool false, .slice none 0 0, .slice none 0 0, .int .u64 0] 47); rw [hsz2] at this; exact this)
  clear h ht hsz1 hsz2
  go_enter Tryz.func26, Tryz.ntmps26
  go_wp2_with fail
  refine HC.out.mono ?_
  rintro e w1 ⟨v7, l8, rfl, hr8, hsl, hM, hF⟩
  have HSL := hide hsl
  obtain ⟨a8, c8, rfl⟩ := own_form hr8
  have HR8 := hide hr8
  clear hr8 hsl
  have HM1 := hide hM
  have HF1 := hide hF
  have HW4 : Hid (w1.heap[w.heap.size + 1]? = some (.cells #[.int .i64 0, .int .i64 0, .string ⟨#[]⟩, .bool false, .slice none 0 0, .slice none 0 0, .int .u64 0] 47 (0, 0))) := hide ((hF.block _ (heap_lt HV4.out) (fun hn => hn (.inr ⟨by omega, by have := HSV.out; omega⟩))).trans HV4.out)
  have HW5 : Hid (w1.heap[w.heap.size + 1 + 1]? = some (.cells #[.int .i64 0, .int .i64 0, .string ⟨#[]⟩, .bool false, .slice none 0 0, .slice none 0 0, .int .u64 0] 47 (0, 0))) := hide ((hF.block _ (heap_lt HV5.out) (fun hn => hn (.inr ⟨by omega, by have := HSV.out; omega⟩))).trans HV5.out)
  clear hM hF HC
  have HX : Hid (∀ i, (w.heap.size ≤ i ∧ i < (((w.alloc (.cells #[.int .u8 3, .int .i64 t, .string key, .string to, .string val] 40)).alloc (.cells #[.int .i64 0, .int .i64 0, .string ⟨#[]⟩, .bool false, .slice none 0 0, .slice none 0 0, .int .u64 0] 47)).alloc (.cells #[.int .i64 0, .int .i64 0, .string ⟨#[]⟩, .bool false, .slice none 0 0, .slice none 0 0, .int .u64 0] 47)).heap.size) → ((X i ∨ (w.heap.size ≤ i ∧ i < (((w.alloc (.cells #[.int .u8 3, .int .i64 t, .string key, .string to, .string val] 40)).alloc (.cells #[.int .i64 0, .int .i64 0, .string ⟨#[]⟩, .bool false, .slice none 0 0, .slice none 0 0, .int .u64 0] 47)).alloc (.cells #[.int .i64 0, .int .i64 0, .string ⟨#[]⟩, .bool false, .slice none 0 0, .slice none 0 0, .int .u64 0] 47)).heap.size)) ∨ (Value.slice a8 l8.length c8).ownBlock = some i)) := hide (fun i hi => .inl (.inr hi))
  have HX0 : Hid (∀ i, (X i ∨ (Value.slice a8 l8.length c8).ownBlock = some i) → ((X i ∨ (w.heap.size ≤ i ∧ i < (((w.alloc (.cells #[.int .u8 3, .int .i64 t, .string key, .string to, .string val] 40)).alloc (.cells #[.int .i64 0, .int .i64 0, .string ⟨#[]⟩, .bool false, .slice none 0 0, .slice none 0 0, .int .u64 0] 47)).alloc (.cells #[.int .i64 0, .int .i64 0, .string ⟨#[]⟩, .bool false, .slice none 0 0, .slice none 0 0, .int .u64 0] 47)).heap.size)) ∨ (Value.slice a8 l8.length c8).ownBlock = some i)) := hide (fun i hi => hi.elim (fun h => .inl (.inl h)) (fun h => .inr h))
  have a0 : w1.cell? ⟨w.heap.size + 1 + 1, 0, none⟩ = some (.int .i64 0) := cell_blk HW5.out rfl
  have b0 : w1.cell? ⟨w.heap.size + 1, 0, none⟩ = some (.int .i64 0) := cell_blk HW4.out rfl
  have g0 : w1.frozen? ⟨w.heap.size + 1, 0, none⟩ = false := frz HW4.out 0
  have a1 : w1.cell? ⟨w.heap.size + 1 + 1, 1, none⟩ = some (.int .i64 0) := cell_blk HW5.out rfl
  have b1 : w1.cell? ⟨w.heap.size + 1, 1, none⟩ = some (.int .i64 0) := cell_blk HW4.out rfl
  have g1 : w1.frozen? ⟨w.heap.size + 1, 1, none⟩ = false := frz HW4.out 1
  have a2 : w1.cell? ⟨w.heap.size + 1 + 1, 2, none⟩ = some (.string ⟨#[]⟩) := cell_blk HW5.out rfl
  have b2 : w1.cell? ⟨w.heap.size + 1, 2, none⟩ = some (.string ⟨#[]⟩) := cell_blk HW4.out rfl
  have g2 : w1.frozen? ⟨w.heap.size + 1, 2, none⟩ = false := frz HW4.out 2
  have a3 : w1.cell? ⟨w.heap.size + 1 + 1, 3, none⟩ = some (.bool false) := cell_blk HW5.out rfl
  have b3 : w1.cell? ⟨w.heap.size + 1, 3, none⟩ = some (.bool false) := cell_blk HW4.out rfl
  have g3 : w1.frozen? ⟨w.heap.size + 1, 3, none⟩ = false := frz HW4.out 3
  have a4 : w1.cell? ⟨w.heap.size + 1 + 1, 4, none⟩ = some (.slice none 0 0) := cell_blk HW5.out rfl
  have b4 : w1.cell? ⟨w.heap.size + 1, 4, none⟩ = some (.slice none 0 0) := cell_blk HW4.out rfl
  have g4 : w1.frozen? ⟨w.heap.size + 1, 4, none⟩ = false := frz HW4.out 4
  have a5 : w1.cell? ⟨w.heap.size + 1 + 1, 5, none⟩ = some (.slice none 0 0) := cell_blk HW5.out rfl
  have b5 : w1.cell? ⟨w.heap.size + 1, 5, none⟩ = some (.slice none 0 0) := cell_blk HW4.out rfl
  have g5 : w1.frozen? ⟨w.heap.size + 1, 5, none⟩ = false := frz HW4.out 5
  have a6 : w1.cell? ⟨w.heap.size + 1 + 1, 6, none⟩ = some (.int .u64 0) := cell_blk HW5.out rfl
  have b6 : w1.cell? ⟨w.heap.size + 1, 6, none⟩ = some (.int .u64 0) := cell_blk HW4.out rfl
  have g6 : w1.frozen? ⟨w.heap.size + 1, 6, none⟩ = false := frz HW4.out 6
  have f4 : w1.frozen? ⟨w.heap.size + 1 + 1, 4, none⟩ = false := frz HW5.out 4
  have f0 : w1.frozen? ⟨w.heap.size + 1 + 1, 0, none⟩ = false := frz HW5.out 0
  have HT : Hid ((((((((((w1.setCell ⟨w.heap.size + 1 + 1, 4, none⟩ (.slice a8 l8.length c8)).setCell ⟨w.heap.size + 1 + 1, 0, none⟩ (.int .i64 (mScan ms t key to).2)).setCell ⟨w.heap.size + 1, 0, none⟩ (.int .i64 (mScan ms t key to).2)).setCell ⟨w.heap.size + 1, 1, none⟩ (.int .i64 0)).setCell ⟨w.heap.size + 1, 2, none⟩ (.string ⟨#[]⟩)).setCell ⟨w.heap.size + 1, 3, none⟩ (.bool false)).setCell ⟨w.heap.size + 1, 4, none⟩ (.slice a8 l8.length c8)).setCell ⟨w.heap.size + 1, 5, none⟩ (.slice none 0 0)).setCell ⟨w.heap.size + 1, 6, none⟩ (.int .u64 0)).heap[w.heap.size + 1]? = some (.cells #[.int .i64 (mScan ms t key to).2, .int .i64 0, .string ⟨#[]⟩, .bool false, .slice a8 l8.length c8, .slice none 0 0, .int .u64 0] 47 (0, 0))) := hide (by
    have p0 : ((w1.setCell ⟨w.heap.size + 1 + 1, 4, none⟩ (.slice a8 l8.length c8)).setCell ⟨w.heap.size + 1 + 1, 0, none⟩ (.int .i64 (mScan ms t key to).2)).heap[w.heap.size + 1]? = some (.cells #[.int .i64 0, .int .i64 0, .string ⟨#[]⟩, .bool false, .slice none 0 0, .slice none 0 0, .int .u64 0] 47 (0, 0)) := (Below.heap_setCell _ _ _ _ (by simp)).trans ((Below.heap_setCell _ _ _ _ (by simp)).trans (HW4.out))
    have p1 := blk_set2 (j := 0) p0 (.int .i64 (mScan ms t key to).2)
    have p2 := blk_set2 (j := 1) p1 (.int .i64 0)
    have p3 := blk_set2 (j := 2) p2 (.string ⟨#[]⟩)
    have p4 := blk_set2 (j := 3) p3 (.bool false)
    have p5 := blk_set2 (j := 4) p4 (.slice a8 l8.length c8)
    have p6 := blk_set2 (j := 5) p5 (.slice none 0 0)
    have p7 := blk_set2 (j := 6) p6 (.int .u64 0)
    simpa using p7)
  have HFE : Hid (Frm (fun i => ¬ X i) w (((((((((w1.setCell ⟨w.heap.size + 1 + 1, 4, none⟩ (.slice a8 l8.length c8)).setCell ⟨w.heap.size + 1 + 1, 0, none⟩ (.int .i64 (mScan ms t key to).2)).setCell ⟨w.heap.size + 1, 0, none⟩ (.int .i64 (mScan ms t key to).2)).setCell ⟨w.heap.size + 1, 1, none⟩ (.int .i64 0)).setCell ⟨w.heap.size + 1, 2, none⟩ (.string ⟨#[]⟩)).setCell ⟨w.heap.size + 1, 3, none⟩ (.bool false)).setCell ⟨w.heap.size + 1, 4, none⟩ (.slice a8 l8.length c8)).setCell ⟨w.heap.size + 1, 5, none⟩ (.slice none 0 0)).setCell ⟨w.heap.size + 1, 6, none⟩ (.int .u64 0))∧ Mn (fun i => X i ∨ (Value.slice a8 l8.length c8).ownBlock = some i) (((((((((w1.setCell ⟨w.heap.size + 1 + 1, 4, none⟩ (.slice a8 l8.length c8)).setCell ⟨w.heap.size + 1 + 1, 0, none⟩ (.int .i64 (mScan ms t key to).2)).setCell ⟨w.heap.size + 1, 0, none⟩ (.int .i64 (mScan ms t key to).2)).setCell ⟨w.heap.size + 1, 1, none⟩ (.int .i64 0)).setCell ⟨w.heap.size + 1, 2, none⟩ (.string ⟨#[]⟩)).setCell ⟨w.heap.size + 1, 3, none⟩ (.bool false)).setCell ⟨w.heap.size + 1, 4, none⟩ (.slice a8 l8.length c8)).setCell ⟨w.heap.size + 1, 5, none⟩ (.slice none 0 0)).setCell ⟨w.heap.size + 1, 6, none⟩ (.int .u64 0)) g (mScan ms t key to).1) := hide (by
    have h0 : Frm (fun i => ¬ X i) w w1 := ⟨by rw [HF1.out.os]; exact HB.out.os, by rw [HF1.out.tape]; exact HB.out.tape, by rw [HF1.out.output]; exact HB.out.output, Nat.le_trans HB.out.size HF1.out.size, fun i hi hn => (HF1.out.block i (Nat.lt_of_lt_of_le hi HB.out.size) (fun hq => hq (.inl (Classical.not_not.1 hn)))).trans (HB.out.block i hi)⟩
    have hx5 : w.heap.size ≤ w.heap.size + 1 + 1 ∧ w.heap.size + 1 + 1 < (((w.alloc (.cells #[.int .u8 3, .int .i64 t, .string key, .string to, .string val] 40)).alloc (.cells #[.int .i64 0, .int .i64 0, .string ⟨#[]⟩, .bool false, .slice none 0 0, .slice none 0 0, .int .u64 0] 47)).alloc (.cells #[.int .i64 0, .int .i64 0, .string ⟨#[]⟩, .bool false, .slice none 0 0, .slice none 0 0, .int .u64 0] 47)).heap.size := ⟨by omega, by have := HSV.out; omega⟩
    have hx4 : w.heap.size ≤ w.heap.size + 1 ∧ w.heap.size + 1 < (((w.alloc (.cells #[.int .u8 3, .int .i64 t, .string key, .string to, .string val] 40)).alloc (.cells #[.int .i64 0, .int .i64 0, .string ⟨#[]⟩, .bool false, .slice none 0 0, .slice none 0 0, .int .u64 0] 47)).alloc (.cells #[.int .i64 0, .int .i64 0, .string ⟨#[]⟩, .bool false, .slice none 0 0, .slice none 0 0, .int .u64 0] 47)).heap.size := ⟨by omega, by have := HSV.out; omega⟩
    exact ⟨(Frm.setFar (Frm.setFar (Frm.setFar (Frm.setFar (Frm.setFar (Frm.setFar (Frm.setFar (Frm.setFar (Frm.setFar h0 (by simp; omega) _) (by simp; omega) _) (by simp) _) (by simp) _) (by simp) _) (by simp) _) (by simp) _) (by simp) _) (by simp) _), Mn.mono (Mn.setX (Mn.setX (Mn.setX (Mn.setX (Mn.setX (Mn.setX (Mn.setX (Mn.setX (Mn.setX HM1.out (HX.out _ hx5) _) (HX.out _ hx5) _) (HX.out _ hx4) _) (HX.out _ hx4) _) (HX.out _ hx4) _) (HX.out _ hx4) _) (HX.out _ hx4) _) (HX.out _ hx4) _) (HX.out _ hx4) _) (fun i hi => HX0.out i hi)⟩)
  have HRE : Hid ((((((((((w1.setCell ⟨w.heap.size + 1 + 1, 4, none⟩ (.slice a8 l8.length c8)).setCell ⟨w.heap.size + 1 + 1, 0, none⟩ (.int .i64 (mScan ms t key to).2)).setCell ⟨w.heap.size + 1, 0, none⟩ (.int .i64 (mScan ms t key to).2)).setCell ⟨w.heap.size + 1, 1, none⟩ (.int .i64 0)).setCell ⟨w.heap.size + 1, 2, none⟩ (.string ⟨#[]⟩)).setCell ⟨w.heap.size + 1, 3, none⟩ (.bool false)).setCell ⟨w.heap.size + 1, 4, none⟩ (.slice a8 l8.length c8)).setCell ⟨w.heap.size + 1, 5, none⟩ (.slice none 0 0)).setCell ⟨w.heap.size + 1, 6, none⟩ (.int .u64 0)).ownsRow w.heap.size 62 2 (.slice a8 l8.length c8) l8.length (l8.flatMap prc)) := hide (row_kept (row_mono HR8.out (by have := HSV.out; omega)) (fun j hj => by
    have hq := (HR8.out.lt j hj).1
    have hs := HSV.out
    exact (Below.heap_setCell _ _ _ _ (by simp; omega)).trans ((Below.heap_setCell _ _ _ _ (by simp; omega)).trans ((Below.heap_setCell _ _ _ _ (by simp; omega)).trans ((Below.heap_setCell _ _ _ _ (by simp; omega)).trans ((Below.heap_setCell _ _ _ _ (by simp; omega)).trans ((Below.heap_setCell _ _ _ _ (by simp; omega)).trans ((Below.heap_setCell _ _ _ _ (by simp; omega)).trans ((Below.heap_setCell _ _ _ _ (by simp; omega)).trans ((Below.heap_setCell _ _ _ _ (by simp; omega)).trans (rfl)))))))))))
  clear HM1 HF1 HV4 HV5 HW4 HW5 HM HB HSV
  go_wp2
  refine bodyPost_ret (results_cell_row (P := Tryz.prog) (p := 4) (ty := 47) rfl _ _ _ 47 _ (0, 0) _ rfl HT.out Tryz.underlying47 rfl (by kernel_rfl)) rfl ?_
  exact ⟨_, l8, rfl, HRE.out, HSL.out, HFE.out.2, HFE.out.1⟩
set_option maxHeartbeats 4000000 in
theorem call_commitE (X : Nat → Prop) (w : World) (g : Nat) (ms : Mg) (h : Mn X w g ms) (t : Int) (ht : -9223372036854775808 ≤ t ∧ t ≤ 9223372036854775807) (key to val : ByteArray) (hnow : ms.now + 1 < 18446744073709551616) :
    Calls Tryz.prog 26 #[.pointer (some ⟨g, 0, none⟩), .agg #[.int .u8 6, .int .i64 t, .string key, .string to, .string val]] w fun e w' => ∃ (pv : Value), e = .returned (.agg #[.int .i64 (mCommit ms t).2.2.2, .int .i64 0, .string ⟨#[]⟩, .bool false, .slice none 0 0, pv, .int .u64 ((mCommit ms t).2.2.1 : Nat)]) ∧ w'.ownsRow w.heap.size 64 3 pv (mCommit ms t).2.1.length ((mCommit ms t).2.1.flatMap wtc) ∧ Mn (fun j => X j ∨ pv.ownBlock = some j) w' g (mCommit ms t).1 ∧ Frm (fun i => ¬ X i) w w' := by
  have HB : Hid (Below w.heap.size w (((w.alloc (.cells #[.int .u8 6, .int .i64 t, .string key, .string to, .string val] 40)).alloc (.cells #[.int .i64 0, .int .i64 0, .string ⟨#[]⟩, .bool false, .slice none 0 0, .slice none 0 0, .int .u64 0] 47)).alloc (.cells #[.int .i64 0, .int .i64 0, .string ⟨#[]⟩, .bool false, .slice none 0 0, .slice none 0 0, .int .u64 0] 47))) := hide ((((Below.refl _ w).alloc (Nat.le_refl _) _).alloc (by simp) _).alloc (by simp; omega) _)
  have HM := hide (h.news HB.out)
  have HC := hide (mn_commit _ _ g ms HM.out t ht hnow)
  have hsz1 : (w.alloc (.cells #[.int .u8 6, .int .i64 t, .string key, .string to, .string val] 40)).heap.size = w.heap.size + 1 := World.size_alloc _ _
  have hsz2 : ((w.alloc (.cells #[.int .u8 6, .int .i64 t, .string key, .string to, .string val] 40)).alloc (.cells #[.int .i64 0, .int .i64 0, .string ⟨#[]⟩, .bool false, .slice none 0 0, .slice none 0 0, .int .u64 0] 47)).heap.size = w.heap.size + 1 + 1 := by rw [World.size_alloc, hsz1]
  have HSV : Hid ((((w.alloc (.cells #[.int .u8 6, .int .i64 t, .string key, .string to, .string val] 40)).alloc (.cells #[.int .i64 0, .int .i64 0, .string ⟨#[]⟩, .bool false, .slice none 0 0, .slice none 0 0, .int .u64 0] 47)).alloc (.cells #[.int .i64 0, .int .i64 0, .string ⟨#[]⟩, .bool false, .slice none 0 0, .slice none 0 0, .int .u64 0] 47)).heap.size = w.heap.size + 1 + 1 + 1) := hide (by rw [World.size_alloc, hsz2])
  have HV4 : Hid ((((w.alloc (.cells #[.int .u8 6, .int .i64 t, .string key, .string to, .string val] 40)).alloc (.cells #[.int .i64 0, .int .i64 0, .string ⟨#[]⟩, .bool false, .slice none 0 0, .slice none 0 0, .int .u64 0] 47)).alloc (.cells #[.int .i64 0, .int .i64 0, .string ⟨#[]⟩, .bool false, .slice none 0 0, .slice none 0 0, .int .u64 0] 47)).heap[w.heap.size + 1]? = some (.cells #[.int .i64 0, .int .i64 0, .string ⟨#[]⟩, .bool false, .slice none 0 0, .slice none 0 0, .int .u64 0] 47 (0, 0))) := hide ((Below.heap_alloc _ _ _ (by rw [hsz2]; omega)).trans (by have := heap_alloc_new (w.alloc (.cells #[.int .u8 6, .int .i64 t, .string key, .string to, .string val] 40)) (.cells #[.int .i64 0, .int .i64 0, .string ⟨#[]⟩, .bool false, .slice none 0 0, .slice none 0 0, .int .u64 0] 47); rw [hsz1] at this; exact this))
  have HV5 : Hid ((((w.alloc (.cells #[.int .u8 6, .int .i64 t, .string key, .string to, .string val] 40)).alloc (.cells #[.int .i64 0, .int .i64 0, .string ⟨#[]⟩, .bool false, .slice none 0 0, .slice none 0 0, .int .u64 0] 47)).alloc (.cells #[.int .i64 0, .int .i64 0, .string ⟨#[]⟩, .bool false, .slice none 0 0, .slice none 0 0, .int .u64 0] 47)).heap[w.heap.size + 1 + 1]? = some (.cells #[.int .i64 0, .int .i64 0, .string ⟨#[]⟩, .bool false, .slice none 0 0, .slice none 0 0, .int .u64 0] 47 (0, 0))) := hide (by have := heap_alloc_new ((w.alloc (.cells #[.int .u8 6, .int .i64 t, .string key, .string to, .string val] 40)).alloc (.cells #[.int .i64 0, .int .i64 0, .string ⟨#[]⟩, .bool false, .slice none 0 0, .slice none 0 0, .int .u64 0] 47)) (.cells #[.int .i64 0, .int .i64 0, .string ⟨#[]⟩, .bool false, .slice none 0 0, .slice none 0 0, .int .u64 0] 47); rw [hsz2] at this; exact this)
  clear h ht hsz1 hsz2
  go_enter Tryz.func26, Tryz.ntmps26
  go_wp2_with fail
  refine HC.out.mono ?_
  rintro e w1 ⟨v7, rfl, hr8, hM, hF⟩
  obtain ⟨a8, c8, rfl⟩ := own_form hr8
  have HR8 := hide hr8
  clear hr8
  have HM1 := hide hM
  have HF1 := hide hF
  have HW4 : Hid (w1.heap[w.heap.size + 1]? = some (.cells #[.int .i64 0, .int .i64 0, .string ⟨#[]⟩, .bool false, .slice none 0 0, .slice none 0 0, .int .u64 0] 47 (0, 0))) := hide ((hF.block _ (heap_lt HV4.out) (fun hn => hn (.inr ⟨by omega, by have := HSV.out; omega⟩))).trans HV4.out)
  have HW5 : Hid (w1.heap[w.heap.size + 1 + 1]? = some (.cells #[.int .i64 0, .int .i64 0, .string ⟨#[]⟩, .bool false, .slice none 0 0, .slice none 0 0, .int .u64 0] 47 (0, 0))) := hide ((hF.block _ (heap_lt HV5.out) (fun hn => hn (.inr ⟨by omega, by have := HSV.out; omega⟩))).trans HV5.out)
  clear hM hF HC
  have HX : Hid (∀ i, (w.heap.size ≤ i ∧ i < (((w.alloc (.cells #[.int .u8 6, .int .i64 t, .string key, .string to, .string val] 40)).alloc (.cells #[.int .i64 0, .int .i64 0, .string ⟨#[]⟩, .bool false, .slice none 0 0, .slice none 0 0, .int .u64 0] 47)).alloc (.cells #[.int .i64 0, .int .i64 0, .string ⟨#[]⟩, .bool false, .slice none 0 0, .slice none 0 0, .int .u64 0] 47)).heap.size) → ((X i ∨ (w.heap.size ≤ i ∧ i < (((w.alloc (.cells #[.int .u8 6, .int .i64 t, .string key, .string to, .string val] 40)).alloc (.cells #[.int .i64 0, .int .i64 0, .string ⟨#[]⟩, .bool false, .slice none 0 0, .slice none 0 0, .int .u64 0] 47)).alloc (.cells #[.int .i64 0, .int .i64 0, .string ⟨#[]⟩, .bool false, .slice none 0 0, .slice none 0 0, .int .u64 0] 47)).heap.size)) ∨ (Value.slice a8 (mCommit ms t).2.1.length c8).ownBlock = some i)) := hide (fun i hi => .inl (.inr hi))
  have HX0 : Hid (∀ i, (X i ∨ (Value.slice a8 (mCommit ms t).2.1.length c8).ownBlock = some i) → ((X i ∨ (w.heap.size ≤ i ∧ i < (((w.alloc (.cells #[.int .u8 6, .int .i64 t, .string key, .string to, .string val] 40)).alloc (.cells #[.int .i64 0, .int .i64 0, .string ⟨#[]⟩, .bool false, .slice none 0 0, .slice none 0 0, .int .u64 0] 47)).alloc (.cells #[.int .i64 0, .int .i64 0, .string ⟨#[]⟩, .bool false, .slice none 0 0, .slice none 0 0, .int .u64 0] 47)).heap.size)) ∨ (Value.slice a8 (mCommit ms t).2.1.length c8).ownBlock = some i)) := hide (fun i hi => hi.elim (fun h => .inl (.inl h)) (fun h => .inr h))
  have a0 : w1.cell? ⟨w.heap.size + 1 + 1, 0, none⟩ = some (.int .i64 0) := cell_blk HW5.out rfl
  have b0 : w1.cell? ⟨w.heap.size + 1, 0, none⟩ = some (.int .i64 0) := cell_blk HW4.out rfl
  have g0 : w1.frozen? ⟨w.heap.size + 1, 0, none⟩ = false := frz HW4.out 0
  have a1 : w1.cell? ⟨w.heap.size + 1 + 1, 1, none⟩ = some (.int .i64 0) := cell_blk HW5.out rfl
  have b1 : w1.cell? ⟨w.heap.size + 1, 1, none⟩ = some (.int .i64 0) := cell_blk HW4.out rfl
  have g1 : w1.frozen? ⟨w.heap.size + 1, 1, none⟩ = false := frz HW4.out 1
  have a2 : w1.cell? ⟨w.heap.size + 1 + 1, 2, none⟩ = some (.string ⟨#[]⟩) := cell_blk HW5.out rfl
  have b2 : w1.cell? ⟨w.heap.size + 1, 2, none⟩ = some (.string ⟨#[]⟩) := cell_blk HW4.out rfl
  have g2 : w1.frozen? ⟨w.heap.size + 1, 2, none⟩ = false := frz HW4.out 2
  have a3 : w1.cell? ⟨w.heap.size + 1 + 1, 3, none⟩ = some (.bool false) := cell_blk HW5.out rfl
  have b3 : w1.cell? ⟨w.heap.size + 1, 3, none⟩ = some (.bool false) := cell_blk HW4.out rfl
  have g3 : w1.frozen? ⟨w.heap.size + 1, 3, none⟩ = false := frz HW4.out 3
  have a4 : w1.cell? ⟨w.heap.size + 1 + 1, 4, none⟩ = some (.slice none 0 0) := cell_blk HW5.out rfl
  have b4 : w1.cell? ⟨w.heap.size + 1, 4, none⟩ = some (.slice none 0 0) := cell_blk HW4.out rfl
  have g4 : w1.frozen? ⟨w.heap.size + 1, 4, none⟩ = false := frz HW4.out 4
  have a5 : w1.cell? ⟨w.heap.size + 1 + 1, 5, none⟩ = some (.slice none 0 0) := cell_blk HW5.out rfl
  have b5 : w1.cell? ⟨w.heap.size + 1, 5, none⟩ = some (.slice none 0 0) := cell_blk HW4.out rfl
  have g5 : w1.frozen? ⟨w.heap.size + 1, 5, none⟩ = false := frz HW4.out 5
  have a6 : w1.cell? ⟨w.heap.size + 1 + 1, 6, none⟩ = some (.int .u64 0) := cell_blk HW5.out rfl
  have b6 : w1.cell? ⟨w.heap.size + 1, 6, none⟩ = some (.int .u64 0) := cell_blk HW4.out rfl
  have g6 : w1.frozen? ⟨w.heap.size + 1, 6, none⟩ = false := frz HW4.out 6
  have f5 : w1.frozen? ⟨w.heap.size + 1 + 1, 5, none⟩ = false := frz HW5.out 5
  have f6 : w1.frozen? ⟨w.heap.size + 1 + 1, 6, none⟩ = false := frz HW5.out 6
  have f0 : w1.frozen? ⟨w.heap.size + 1 + 1, 0, none⟩ = false := frz HW5.out 0
  have HT : Hid (((((((((((w1.setCell ⟨w.heap.size + 1 + 1, 5, none⟩ (.slice a8 (mCommit ms t).2.1.length c8)).setCell ⟨w.heap.size + 1 + 1, 6, none⟩ (.int .u64 ((mCommit ms t).2.2.1 : Nat))).setCell ⟨w.heap.size + 1 + 1, 0, none⟩ (.int .i64 (mCommit ms t).2.2.2)).setCell ⟨w.heap.size + 1, 0, none⟩ (.int .i64 (mCommit ms t).2.2.2)).setCell ⟨w.heap.size + 1, 1, none⟩ (.int .i64 0)).setCell ⟨w.heap.size + 1, 2, none⟩ (.string ⟨#[]⟩)).setCell ⟨w.heap.size + 1, 3, none⟩ (.bool false)).setCell ⟨w.heap.size + 1, 4, none⟩ (.slice none 0 0)).setCell ⟨w.heap.size + 1, 5, none⟩ (.slice a8 (mCommit ms t).2.1.length c8)).setCell ⟨w.heap.size + 1, 6, none⟩ (.int .u64 ((mCommit ms t).2.2.1 : Nat))).heap[w.heap.size + 1]? = some (.cells #[.int .i64 (mCommit ms t).2.2.2, .int .i64 0, .string ⟨#[]⟩, .bool false, .slice none 0 0, .slice a8 (mCommit ms t).2.1.length c8, .int .u64 ((mCommit ms t).2.2.1 : Nat)] 47 (0, 0))) := hide (by
    have p0 : (((w1.setCell ⟨w.heap.size + 1 + 1, 5, none⟩ (.slice a8 (mCommit ms t).2.1.length c8)).setCell ⟨w.heap.size + 1 + 1, 6, none⟩ (.int .u64 ((mCommit ms t).2.2.1 : Nat))).setCell ⟨w.heap.size + 1 + 1, 0, none⟩ (.int .i64 (mCommit ms t).2.2.2)).heap[w.heap.size + 1]? = some (.cells #[.int .i64 0, .int .i64 0, .string ⟨#[]⟩, .bool false, .slice none 0 0, .slice none 0 0, .int .u64 0] 47 (0, 0)) := (Below.heap_setCell _ _ _ _ (by simp)).trans ((Below.heap_setCell _ _ _ _ (by simp)).trans ((Below.heap_setCell _ _ _ _ (by simp)).trans (HW4.out)))
    have p1 := blk_set2 (j := 0) p0 (.int .i64 (mCommit ms t).2.2.2)
    have p2 := blk_set2 (j := 1) p1 (.int .i64 0)
    have p3 := blk_set2 (j := 2) p2 (.string ⟨#[]⟩)
    have p4 := blk_set2 (j := 3) p3 (.bool false)
    have p5 := blk_set2 (j := 4) p4 (.slice none 0 0)
    have p6 := blk_set2 (j := 5) p5 (.slice a8 (mCommit ms t).2.1.length c8)
    have p7 := blk_set2 (j := 6) p6 (.int .u64 ((mCommit ms t).2.2.1 : Nat))
    simpa using p7)
  have HFE : Hid (Frm (fun i => ¬ X i) w ((((((((((w1.setCell ⟨w.heap.size + 1 + 1, 5, none⟩ (.slice a8 (mCommit ms t).2.1.length c8)).setCell ⟨w.heap.size + 1 + 1, 6, none⟩ (.int .u64 ((mCommit ms t).2.2.1 : Nat))).setCell ⟨w.heap.size + 1 + 1, 0, none⟩ (.int .i64 (mCommit ms t).2.2.2)).setCell ⟨w.heap.size + 1, 0, none⟩ (.int .i64 (mCommit ms t).2.2.2)).setCell ⟨w.heap.size + 1, 1, none⟩ (.int .i64 0)).setCell ⟨w.heap.size + 1, 2, none⟩ (.string ⟨#[]⟩)).setCell ⟨w.heap.size + 1, 3, none⟩ (.bool false)).setCell ⟨w.heap.size + 1, 4, none⟩ (.slice none 0 0)).setCell ⟨w.heap.size + 1, 5, none⟩ (.slice a8 (mCommit ms t).2.1.length c8)).setCell ⟨w.heap.size + 1, 6, none⟩ (.int .u64 ((mCommit ms t).2.2.1 : Nat)))∧ Mn (fun i => X i ∨ (Value.slice a8 (mCommit ms t).2.1.length c8).ownBlock = some i) ((((((((((w1.setCell ⟨w.heap.size + 1 + 1, 5, none⟩ (.slice a8 (mCommit ms t).2.1.length c8)).setCell ⟨w.heap.size + 1 + 1, 6, none⟩ (.int .u64 ((mCommit ms t).2.2.1 : Nat))).setCell ⟨w.heap.size + 1 + 1, 0, none⟩ (.int .i64 (mCommit ms t).2.2.2)).setCell ⟨w.heap.size + 1, 0, none⟩ (.int .i64 (mCommit ms t).2.2.2)).setCell ⟨w.heap.size + 1, 1, none⟩ (.int .i64 0)).setCell ⟨w.heap.size + 1, 2, none⟩ (.string ⟨#[]⟩)).setCell ⟨w.heap.size + 1, 3, none⟩ (.bool false)).setCell ⟨w.heap.size + 1, 4, none⟩ (.slice none 0 0)).setCell ⟨w.heap.size + 1, 5, none⟩ (.slice a8 (mCommit ms t).2.1.length c8)).setCell ⟨w.heap.size + 1, 6, none⟩ (.int .u64 ((mCommit ms t).2.2.1 : Nat))) g (mCommit ms t).1) := hide (by
    have h0 : Frm (fun i => ¬ X i) w w1 := ⟨by rw [HF1.out.os]; exact HB.out.os, by rw [HF1.out.tape]; exact HB.out.tape, by rw [HF1.out.output]; exact HB.out.output, Nat.le_trans HB.out.size HF1.out.size, fun i hi hn => (HF1.out.block i (Nat.lt_of_lt_of_le hi HB.out.size) (fun hq => hq (.inl (Classical.not_not.1 hn)))).trans (HB.out.block i hi)⟩
    have hx5 : w.heap.size ≤ w.heap.size + 1 + 1 ∧ w.heap.size + 1 + 1 < (((w.alloc (.cells #[.int .u8 6, .int .i64 t, .string key, .string to, .string val] 40)).alloc (.cells #[.int .i64 0, .int .i64 0, .string ⟨#[]⟩, .bool false, .slice none 0 0, .slice none 0 0, .int .u64 0] 47)).alloc (.cells #[.int .i64 0, .int .i64 0, .string ⟨#[]⟩, .bool false, .slice none 0 0, .slice none 0 0, .int .u64 0] 47)).heap.size := ⟨by omega, by have := HSV.out; omega⟩
    have hx4 : w.heap.size ≤ w.heap.size + 1 ∧ w.heap.size + 1 < (((w.alloc (.cells #[.int .u8 6, .int .i64 t, .string key, .string to, .string val] 40)).alloc (.cells #[.int .i64 0, .int .i64 0, .string ⟨#[]⟩, .bool false, .slice none 0 0, .slice none 0 0, .int .u64 0] 47)).alloc (.cells #[.int .i64 0, .int .i64 0, .string ⟨#[]⟩, .bool false, .slice none 0 0, .slice none 0 0, .int .u64 0] 47)).heap.size := ⟨by omega, by have := HSV.out; omega⟩
    exact ⟨(Frm.setFar (Frm.setFar (Frm.setFar (Frm.setFar (Frm.setFar (Frm.setFar (Frm.setFar (Frm.setFar (Frm.setFar (Frm.setFar h0 (by simp; omega) _) (by simp; omega) _) (by simp; omega) _) (by simp) _) (by simp) _) (by simp) _) (by simp) _) (by simp) _) (by simp) _) (by simp) _), Mn.mono (Mn.setX (Mn.setX (Mn.setX (Mn.setX (Mn.setX (Mn.setX (Mn.setX (Mn.setX (Mn.setX (Mn.setX HM1.out (HX.out _ hx5) _) (HX.out _ hx5) _) (HX.out _ hx5) _) (HX.out _ hx4) _) (HX.out _ hx4) _) (HX.out _ hx4) _) (HX.out _ hx4) _) (HX.out _ hx4) _) (HX.out _ hx4) _) (HX.out _ hx4) _) (fun i hi => HX0.out i hi)⟩)
  have HRE : Hid (((((((((((w1.setCell ⟨w.heap.size + 1 + 1, 5, none⟩ (.slice a8 (mCommit ms t).2.1.length c8)).setCell ⟨w.heap.size + 1 + 1, 6, none⟩ (.int .u64 ((mCommit ms t).2.2.1 : Nat))).setCell ⟨w.heap.size + 1 + 1, 0, none⟩ (.int .i64 (mCommit ms t).2.2.2)).setCell ⟨w.heap.size + 1, 0, none⟩ (.int .i64 (mCommit ms t).2.2.2)).setCell ⟨w.heap.size + 1, 1, none⟩ (.int .i64 0)).setCell ⟨w.heap.size + 1, 2, none⟩ (.string ⟨#[]⟩)).setCell ⟨w.heap.size + 1, 3, none⟩ (.bool false)).setCell ⟨w.heap.size + 1, 4, none⟩ (.slice none 0 0)).setCell ⟨w.heap.size + 1, 5, none⟩ (.slice a8 (mCommit ms t).2.1.length c8)).setCell ⟨w.heap.size + 1, 6, none⟩ (.int .u64 ((mCommit ms t).2.2.1 : Nat))).ownsRow w.heap.size 64 3 (.slice a8 (mCommit ms t).2.1.length c8) (mCommit ms t).2.1.length ((mCommit ms t).2.1.flatMap wtc)) := hide (row_kept (row_mono HR8.out (by have := HSV.out; omega)) (fun j hj => by
    have hq := (HR8.out.lt j hj).1
    have hs := HSV.out
    exact (Below.heap_setCell _ _ _ _ (by simp; omega)).trans ((Below.heap_setCell _ _ _ _ (by simp; omega)).trans ((Below.heap_setCell _ _ _ _ (by simp; omega)).trans ((Below.heap_setCell _ _ _ _ (by simp; omega)).trans ((Below.heap_setCell _ _ _ _ (by simp; omega)).trans ((Below.heap_setCell _ _ _ _ (by simp; omega)).trans ((Below.heap_setCell _ _ _ _ (by simp; omega)).trans ((Below.heap_setCell _ _ _ _ (by simp; omega)).trans ((Below.heap_setCell _ _ _ _ (by simp; omega)).trans ((Below.heap_setCell _ _ _ _ (by simp; omega)).trans (rfl))))))))))))
  clear HM1 HF1 HV4 HV5 HW4 HW5 HM HB HSV
  go_wp2
  refine bodyPost_ret (results_cell_row (P := Tryz.prog) (p := 4) (ty := 47) rfl _ _ _ 47 _ (0, 0) _ rfl HT.out Tryz.underlying47 rfl (by kernel_rfl)) rfl ?_
  exact ⟨_, rfl, HRE.out, HFE.out.2, HFE.out.1⟩
set_option maxHeartbeats 4000000 in
theorem call_otherE (X : Nat → Prop) (w : World) (g : Nat) (ms : Mg) (h : Mn X w g ms) (k : Nat) (hk : ¬ (1 ≤ k ∧ k ≤ 7)) (t : Int) (key to val : ByteArray) :
    Calls Tryz.prog 26 #[.pointer (some ⟨g, 0, none⟩), .agg #[.int .u8 (k : Nat), .int .i64 t, .string key, .string to, .string val]] w fun e w' => e = .returned (.agg #[.int .i64 15, .int .i64 0, .string ⟨#[]⟩, .bool false, .slice none 0 0, .slice none 0 0, .int .u64 0]) ∧ Mn X w' g ms ∧ Frm (fun i => ¬ X i) w w' := by
  have n1a : ¬ (k : Int) = 1 := by omega
  have n1b : ((k : Int) == 1) = false := by simp; omega
  have n1c : (k == 1) = false := by simp; omega
  have n1d : decide ((k : Int) = 1) = false := decide_eq_false (by omega)
  have n2a : ¬ (k : Int) = 2 := by omega
  have n2b : ((k : Int) == 2) = false := by simp; omega
  have n2c : (k == 2) = false := by simp; omega
  have n2d : decide ((k : Int) = 2) = false := decide_eq_false (by omega)
  have n3a : ¬ (k : Int) = 3 := by omega
  have n3b : ((k : Int) == 3) = false := by simp; omega
  have n3c : (k == 3) = false := by simp; omega
  have n3d : decide ((k : Int) = 3) = false := decide_eq_false (by omega)
  have n4a : ¬ (k : Int) = 4 := by omega
  have n4b : ((k : Int) == 4) = false := by simp; omega
  have n4c : (k == 4) = false := by simp; omega
  have n4d : decide ((k : Int) = 4) = false := decide_eq_false (by omega)
  have n5a : ¬ (k : Int) = 5 := by omega
  have n5b : ((k : Int) == 5) = false := by simp; omega
  have n5c : (k == 5) = false := by simp; omega
  have n5d : decide ((k : Int) = 5) = false := decide_eq_false (by omega)
  have n6a : ¬ (k : Int) = 6 := by omega
  have n6b : ((k : Int) == 6) = false := by simp; omega
  have n6c : (k == 6) = false := by simp; omega
  have n6d : decide ((k : Int) = 6) = false := decide_eq_false (by omega)
  have n7a : ¬ (k : Int) = 7 := by omega
  have n7b : ((k : Int) == 7) = false := by simp; omega
  have n7c : (k == 7) = false := by simp; omega
  have n7d : decide ((k : Int) = 7) = false := decide_eq_false (by omega)
  have HB : Hid (Below w.heap.size w (((w.alloc (.cells #[.int .u8 (k : Nat), .int .i64 t, .string key, .string to, .string val] 40)).alloc (.cells #[.int .i64 15, .int .i64 0, .string ⟨#[]⟩, .bool false, .slice none 0 0, .slice none 0 0, .int .u64 0] 47)).alloc (.cells #[.int .i64 15, .int .i64 0, .string ⟨#[]⟩, .bool false, .slice none 0 0, .slice none 0 0, .int .u64 0] 47))) := hide ((((Below.refl _ w).alloc (Nat.le_refl _) _).alloc (by simp) _).alloc (by simp; omega) _)
  have HM := hide (h.below HB.out)
  have hsz1 : (w.alloc (.cells #[.int .u8 (k : Nat), .int .i64 t, .string key, .string to, .string val] 40)).heap.size = w.heap.size + 1 := World.size_alloc _ _
  have hsz2 : ((w.alloc (.cells #[.int .u8 (k : Nat), .int .i64 t, .string key, .string to, .string val] 40)).alloc (.cells #[.int .i64 15, .int .i64 0, .string ⟨#[]⟩, .bool false, .slice none 0 0, .slice none 0 0, .int .u64 0] 47)).heap.size = w.heap.size + 1 + 1 := by rw [World.size_alloc, hsz1]
  have HT : Hid ((((w.alloc (.cells #[.int .u8 (k : Nat), .int .i64 t, .string key, .string to, .string val] 40)).alloc (.cells #[.int .i64 15, .int .i64 0, .string ⟨#[]⟩, .bool false, .slice none 0 0, .slice none 0 0, .int .u64 0] 47)).alloc (.cells #[.int .i64 15, .int .i64 0, .string ⟨#[]⟩, .bool false, .slice none 0 0, .slice none 0 0, .int .u64 0] 47)).heap[w.heap.size + 1]? = some (.cells #[.int .i64 15, .int .i64 0, .string ⟨#[]⟩, .bool false, .slice none 0 0, .slice none 0 0, .int .u64 0] 47 (0, 0))) := hide ((Below.heap_alloc _ _ _ (by rw [hsz2]; omega)).trans (by have := heap_alloc_new (w.alloc (.cells #[.int .u8 (k : Nat), .int .i64 t, .string key, .string to, .string val] 40)) (.cells #[.int .i64 15, .int .i64 0, .string ⟨#[]⟩, .bool false, .slice none 0 0, .slice none 0 0, .int .u64 0] 47); rw [hsz1] at this; exact this))
  clear h hsz1 hsz2 hk
  go_enter Tryz.func26, Tryz.ntmps26
  go_wp2
  refine bodyPost_ret (results_cell_row (P := Tryz.prog) (p := 4) (ty := 47) rfl _ _ _ 47 _ (0, 0) _ rfl HT.out Tryz.underlying47 rfl (by kernel_rfl)) rfl ?_
  exact ⟨rfl, HM.out, Frm.below HB.out⟩

end Go.Proofs.YtlkmcbelmldleaaGreat
/- Versions; what it answers -/
namespace Go.Proofs.YtlkmcbelmldleaaGreat
open Go.RowKit
open Go.Maps (Keyed has size)
set_option maxRecDepth 40000
set_option linter.unusedVariables false
set_option maxHeartbeats 2000000 in
theorem versions_any (w : World) (g ob : Nat) (ps : List Pl) (ms : Mg) (h : IsM w g ob ps ms) (hlen : ms.vs.length ≤ 4096) :
    Calls Tryz.prog 25 #[.pointer (some ⟨g, 0, none⟩)] w fun e w' => ∃ v, e = .returned (.agg #[v, .int .u64 (ms.low : Nat)]) ∧ w'.ownsRow w.heap.size 66 4 v ms.vs.length (ms.vs.flatMap vrc) ∧ Below w.heap.size w w' := by
  obtain ⟨a, q, c, hb, hV, _, hfar⟩ := h.ver
  have hq : ms.vs.length = q := hV.1
  have HQ := hide (show q ≤ 4096 by omega)
  have HQ2 := hide hq
  have HV : Hid (∀ W' : World, Below w.heap.size w W' → IsV W' a q c ms.vs) := hide (fun W' hW => hV.below hW)
  have HS : Hid (∀ W' : World, Below w.heap.size w W' → W'.cell? ⟨g, 0, none⟩ = some (.slice a q c) ∧ W'.cell? ⟨g, 1, none⟩ = some (.int .u64 (ms.low : Nat))) := hide (fun W' hW => by
    have r1 := (hW.block _ (heap_lt hb)).trans hb
    exact ⟨cell_blk r1 rfl, cell_blk r1 rfl⟩)
  have HB1 : Hid (Below w.heap.size w (w.alloc (.cells #[.slice none 0 0, .int .u64 0] 31)).drew) := hide (((Below.refl _ w).alloc (Nat.le_refl _) _).drew)
  have HN1 : Hid ((w.alloc (.cells #[.slice none 0 0, .int .u64 0] 31)).drew.heap[w.heap.size]? = some (.cells #[.slice none 0 0, .int .u64 0] 31 (0, 0))) := hide (heap_alloc_new w _)
  clear h hb hV hfar hlen hq
  go_enter Tryz.func25, Tryz.ntmps25
  go_wp2_with fail
  refine wp_region_last 12 (fun W' : World => W'.cell? ⟨g, 0, none⟩ = some (.slice a q c) ∧ W'.cell? ⟨g, 1, none⟩ = some (.int .u64 (ms.low : Nat))) (by kernel_rfl) (HS.out _ HB1.out) (fun hHeld => ?_)
  refine wpAnyL_take (i := 0) (v := ?v0p) rfl (by kernel_rfl) (fun _ _ _ h => h) (by assumption) (by rfl) ?hy0p ?hn0p
  case hy0p => (intro w hSw; (try dsimp only at hSw); skip; go_simp; try with_reducible rfl)
  try simp only [Act.put]
  refine wpAnyL_take (i := 1) (v := ?v1p) rfl (by kernel_rfl) (fun _ _ _ h => h) (by assumption) (by rfl) ?hy1p ?hn1p
  case hy1p => (intro w hSw; (try dsimp only at hSw); skip; go_simp; try with_reducible rfl)
  try simp only [Act.put]
  refine wpAnyL_take (i := 2) (v := ?v2p) rfl (by kernel_rfl) (fun _ _ _ h => h) (by assumption) (by rfl) ?hy2p ?hn2p
  case hy2p => (intro w hSw; (try dsimp only at hSw); skip; go_simp; try with_reducible rfl)
  try simp only [Act.put]
  refine wpAnyL_take (i := 3) (v := ?v3p) rfl (by kernel_rfl) (fun _ _ _ h => h) (by assumption) (by rfl) ?hy3p ?hn3p
  case hy3p => (intro w hSw; (try dsimp only at hSw); skip; go_simp; try with_reducible rfl)
  try simp only [Act.put]
  refine wpAnyL_take (i := 4) (v := ?v4p) rfl (by kernel_rfl) (fun _ _ _ h => h) (by assumption) (by rfl) ?hy4p ?hn4p
  case hy4p => (intro w hSw; (try dsimp only at hSw); skip; go_simp; try with_reducible rfl)
  try simp only [Act.put]
  refine wpAnyL_take (i := 6) (v := ?v6p) rfl (by kernel_rfl) (fun _ _ _ h => h) (by assumption) (by rfl) ?hy6p ?hn6p
  case hy6p => (intro w hSw; (try dsimp only at hSw); skip; go_simp; try with_reducible rfl)
  try simp only [Act.put]
  refine wpAnyL_take (i := 7) (v := ?v7p) rfl (by kernel_rfl) (fun _ _ _ h => h) (by assumption) (by rfl) ?hy7p ?hn7p
  case hy7p => (intro w hSw; (try dsimp only at hSw); skip; go_simp; try with_reducible rfl)
  try simp only [Act.put]
  refine wpAnyL_take (i := 8) (v := ?v8p) rfl (by kernel_rfl) (fun _ _ _ h => h) (by assumption) (by rfl) ?hy8p ?hn8p
  case hy8p => (intro w hSw; (try dsimp only at hSw); skip; go_simp; try with_reducible rfl)
  try simp only [Act.put]
  refine wpAnyL_take (i := 9) (v := ?v9p) rfl (by kernel_rfl) (fun _ _ _ h => h) (by assumption) (by rfl) ?hy9p ?hn9p
  case hy9p => (intro w hSw; (try dsimp only at hSw); skip; go_simp; try with_reducible rfl)
  try simp only [Act.put]
  refine wpAnyL_take (i := 10) (v := ?v10p) rfl (by kernel_rfl) (fun _ _ _ h => h) (by assumption) (by rfl) ?hy10p ?hn10p
  case hy10p => (intro w hSw; (try dsimp only at hSw); skip; go_simp; try with_reducible rfl)
  try simp only [Act.put]
  refine wpAnyL_one (i := 5) rfl (by kernel_rfl) (fun K hK => ?_)
  go_simp
  refine (clone_any a q c ms.vs _ (HV.out _ HB1.out) HQ.out).mono ?_
  rintro e w2 ⟨v2, rfl, hrow, hb2⟩
  obtain ⟨a2, c2, rfl⟩ := own_form hrow
  have HROW := hide hrow
  have HB2 := hide hb2
  have HBL : Hid (Below w.heap.size w w2) := hide (HB1.out.trans (hb2.mono HB1.out.size))
  have HN2 : Hid (w2.heap[w.heap.size]? = some (.cells #[.slice none 0 0, .int .u64 0] 31 (0, 0))) := hide ((hb2.block _ (heap_lt HN1.out)).trans HN1.out)
  clear hrow hb2
  refine hK.out _ _ (HS.out _ HBL.out) (fun hHeld => ?_)
  clear hK K
  try simp only [Act.put]
  refine wpAnyL_take (i := 11) (v := ?v11p) rfl (by kernel_rfl) (fun _ _ _ h => h) (by assumption) (by rfl) ?hy11p ?hn11p
  case hy11p => (intro w hSw; (try dsimp only at hSw); skip; go_simp; try with_reducible rfl)
  try simp only [Act.put]
  have y0 : w2.cell? ⟨w.heap.size, 0, none⟩ = some (.slice none 0 0) := cell_blk HN2.out rfl
  have y1 : w2.cell? ⟨w.heap.size, 1, none⟩ = some (.int .u64 0) := cell_blk HN2.out rfl
  have fy0 : w2.frozen? ⟨w.heap.size, 0, none⟩ = false := frz HN2.out 0
  have fy1 : w2.frozen? ⟨w.heap.size, 1, none⟩ = false := frz HN2.out 1
  refine wpAnyL_last rfl (by kernel_rfl) (by kernel_rfl) (fun K hK => ?_)
  go_simp
  refine hK.out _ _ ?_
  clear hK K hHeld
  have HT : Hid (((w2.setCell ⟨w.heap.size, 0, none⟩ (.slice a2 q c2)).setCell ⟨w.heap.size, 1, none⟩ (.int .u64 (ms.low : Nat))).heap[w.heap.size]? = some (.cells #[.slice a2 q c2, .int .u64 (ms.low : Nat)] 31 (0, 0))) := hide (by
    have p1 := blk_set2 (j := 0) HN2.out (.slice a2 q c2)
    have p2 := blk_set2 (j := 1) p1 (.int .u64 (ms.low : Nat))
    simpa using p2)
  have HEND : Hid (Below w.heap.size w ((w2.setCell ⟨w.heap.size, 0, none⟩ (.slice a2 q c2)).setCell ⟨w.heap.size, 1, none⟩ (.int .u64 (ms.low : Nat))) ∧ ((w2.setCell ⟨w.heap.size, 0, none⟩ (.slice a2 q c2)).setCell ⟨w.heap.size, 1, none⟩ (.int .u64 (ms.low : Nat))).ownsRow w.heap.size 66 4 (.slice a2 q c2) ms.vs.length (ms.vs.flatMap vrc)) := hide ⟨(HBL.out.setCell (Nat.le_refl _) _).setCell (Nat.le_refl _) _, by
    rw [HQ2.out]
    refine row_kept (row_mono HROW.out HB1.out.size) (fun j hj => ?_)
    have h1 := (HROW.out.lt j hj).1
    have h2 := heap_lt HN1.out
    exact (Below.heap_setCell _ _ _ _ (by simp; omega)).trans (Below.heap_setCell _ _ _ _ (by simp; omega))⟩
  clear HROW HB2 HBL HN2 y0 y1 fy0 fy1
  go_wp2
  refine bodyPost_ret (results_cell_row (P := Tryz.prog) (p := 2) (ty := 31) rfl _ _ _ 31 _ (0, 0) _ rfl HT.out Tryz.underlying31 rfl (by kernel_rfl)) rfl ?_
  exact ⟨_, rfl, HEND.out.2, HEND.out.1⟩
theorem mn_versions (X : Nat → Prop) (w : World) (g : Nat) (ms : Mg) (h : Mn X w g ms) (hg : Gd ms) :
    Calls Tryz.prog 25 #[.pointer (some ⟨g, 0, none⟩)] w fun e w' => ∃ v, e = .returned (.agg #[v, .int .u64 (ms.low : Nat)]) ∧ w'.ownsRow w.heap.size 66 4 v ms.vs.length (ms.vs.flatMap vrc) ∧ Below w.heap.size w w' := by
  obtain ⟨ob, ps, h1, _⟩ := h.ex
  exact versions_any w g ob ps ms h1 (goodB_iff.1 hg.good).1
end Go.Proofs.YtlkmcbelmldleaaGreat
/- what TxnCalls wants besides: an answer's rows, and rows that are wiped -/
namespace Go.Proofs.YtlkmcbelmldleaaGreat
open Go.RowKit
set_option maxRecDepth 40000
set_option linter.unusedVariables false
/-- blocks of the set alone, and new ones, have turned -/
theorem Duo.turned {X : Nat → Prop} {w w' : World} {g g' : Nat} {ms ms' : Mg} (h : Duo X w g g' ms ms') (hF : Frm X w w') : Duo X w' g g' ms ms' := by
  obtain ⟨ob, ps, ob', ps', h1, h2, h3, h4, h5⟩ := h.ex
  have l1 : ∀ i, OwnM w g ob ps i → i < w.heap.size := fun i hi => hi.elim (fun hi => h1.ltS hi) (fun hi => vb_lt h1 hi)
  have l2 : ∀ i, OwnM w g' ob' ps' i → i < w.heap.size := fun i hi => hi.elim (fun hi => h2.ltS hi) (fun hi => vb_lt h2 hi)
  have k1 : ∀ i, OwnM w g ob ps i → w'.heap[i]? = w.heap[i]? := fun i hi => hF.block i (l1 i hi) (h4 i hi)
  have k2 : ∀ i, OwnM w g' ob' ps' i → w'.heap[i]? = w.heap[i]? := fun i hi => hF.block i (l2 i hi) (h5 i hi)
  have o1 : ∀ i, OwnM w' g ob ps i → OwnM w g ob ps i := fun i hi => hi.imp id (fun hv => hv.same (k1 g (.inl (.inl rfl))))
  have o2 : ∀ i, OwnM w' g' ob' ps' i → OwnM w g' ob' ps' i := fun i hi => hi.imp id (fun hv => hv.same (k2 g' (.inl (.inl rfl))))
  exact ⟨⟨ob, ps, ob', ps', h1.keptX hF.size (fun i hi => k1 i (.inl hi)) (fun i hi _ => k1 i (.inr hi)), h2.keptX hF.size (fun i hi => k2 i (.inl hi)) (fun i hi _ => k2 i (.inr hi)), fun i hi hj => h3 i (o1 i hi) (o2 i hj), fun i hi => h4 i (o1 i hi), fun i hi => h5 i (o2 i hi)⟩, h.few, h.few', fun i hi => Nat.lt_of_lt_of_le (h.xb i hi) hF.size⟩
/-- a row whose places are there, whatever they hold -/
def Flat (w : World) (e size : Nat) (v : Value) (n : Nat) : Prop := (v = .slice none 0 0 ∧ n = 0) ∨ ∃ b cap cur, v = .slice (some ⟨b, 0, none⟩) n cap ∧ w.heap[b]? = some (.cells cur e (0, 0)) ∧ n ≤ cap ∧ cap ≤ maxLen ∧ cur.size = cap * size
theorem flat_of {w : World} {base e size : Nat} {v : Value} {n : Nat} {xs : List Value} (h : w.ownsRow base e size v n xs) : Flat w e size v n :=
  h.2.imp id (fun ⟨g, cap, cur, h1, _, h3, h4, h5, h6, _⟩ => ⟨g, cap, cur, h1, h3, h4, h5, h6⟩)
theorem Flat.kept {w w' : World} {e size : Nat} {v : Value} {n : Nat} (h : Flat w e size v n) (hk : ∀ j, v.ownBlock = some j → w'.heap[j]? = w.heap[j]?) : Flat w' e size v n := by
  rcases h with h | ⟨b, cap, cur, rfl, h2, h3⟩
  · exact .inl h
  · exact .inr ⟨b, cap, cur, rfl, (hk b rfl).trans h2, h3⟩
theorem Flat.set {w : World} {e size : Nat} {v : Value} {n : Nat} (h : Flat w e size v n) (b j : Nat) (u : Value) : Flat (w.setCell ⟨b, j, none⟩ u) e size v n := by
  rcases h with h | ⟨b', cap, cur, rfl, h2, h3, h4, h5⟩
  · exact .inl h
  · by_cases hb : b' = b
    · subst hb
      exact .inr ⟨b', cap, _, rfl, blk_set2 h2 u, h3, h4, by simpa using h5⟩
    · exact .inr ⟨b', cap, cur, rfl, (Below.heap_setCell _ _ _ _ hb).trans h2, h3, h4, h5⟩
theorem Flat.at {w : World} {e size : Nat} {v : Value} {n i : Nat} (h : Flat w e size v n) (hi : i < n) : ∃ b cap, v = .slice (some ⟨b, 0, none⟩) n cap ∧ n ≤ cap ∧ cap ≤ maxLen ∧ (∀ j, w.frozen? ⟨b, j, none⟩ = false) ∧ ∀ j, j < size → ∃ u, w.cell? ⟨b, i * size + j, none⟩ = some u := by
  rcases h with ⟨_, h⟩ | ⟨b, cap, cur, rfl, h2, h3, h4, h5⟩
  · omega
  · refine ⟨b, cap, rfl, h3, h4, fun j => frz h2 j, fun j hj => ?_⟩
    have h6 : i * size + j < cur.size := by
      rw [h5]
      have : (i + 1) * size ≤ cap * size := Nat.mul_le_mul_right _ (by omega)
      rw [Nat.succ_mul] at this
      omega
    exact ⟨cur[i * size + j], cell_blk h2 (Array.getElem?_eq_getElem h6)⟩
/-- the law's dispatch: the answer with its rows -/
theorem call_own (X : Nat → Prop) (w : World) (g : Nat) (ms : Mg) (h : Mn X w g ms) (k : Nat) (t : Int) (ht : -9223372036854775808 ≤ t ∧ t ≤ 9223372036854775807) (key to val : ByteArray) (hlast : ms.last + 1 < 4611686018427387904) (hnow : ms.now + 1 < 18446744073709551616) :
    Calls Tryz.prog 26 #[.pointer (some ⟨g, 0, none⟩), .agg #[.int .u8 (k : Nat), .int .i64 t, .string key, .string to, .string val]] w fun e w' => ∃ (pv dv : Value) (A : An), e = .returned (.agg #[.int .i64 A.why, .int .i64 A.tx, .string A.val, .bool A.is, pv, dv, .int .u64 (A.time : Nat)]) ∧ AnOk ms k t key to val A ∧ w'.ownsRow w.heap.size 62 2 pv A.pairs.length (A.pairs.flatMap prc) ∧ w'.ownsRow w.heap.size 64 3 dv A.done.length (A.done.flatMap wtc) ∧ (pv = .slice none 0 0 ∨ dv = .slice none 0 0) ∧ Mn (fun j => X j ∨ (pv.ownBlock = some j ∨ dv.ownBlock = some j)) w' g (mDo ms k t key to val) ∧ Frm (fun i => ¬ X i) w w' := by
  have hn : ∀ j, ¬ (Value.slice none 0 0).ownBlock = some j := fun j e => by simp [Value.ownBlock] at e
  have nM : ∀ {w' : World} {ms' : Mg}, Mn X w' g ms' → Mn (fun j => X j ∨ ((Value.slice none 0 0).ownBlock = some j ∨ (Value.slice none 0 0).ownBlock = some j)) w' g ms' := fun h => h.mono (fun i hi => hi.elim id (fun h => h.elim (fun h => absurd h (hn i)) (fun h => absurd h (hn i))))
  have nl : ∀ w' : World, w'.ownsRow w.heap.size 62 2 (.slice none 0 0) 0 [] := fun w' => World.ownsRow_nil _ _ _ _
  have nd : ∀ w' : World, w'.ownsRow w.heap.size 64 3 (.slice none 0 0) 0 [] := fun w' => World.ownsRow_nil _ _ _ _
  by_cases hk : 1 ≤ k ∧ k ≤ 7
  · obtain ⟨h1, h7⟩ := hk
    rcases (by omega : k = 1 ∨ k = 2 ∨ k = 3 ∨ k = 4 ∨ k = 5 ∨ k = 6 ∨ k = 7) with rfl | rfl | rfl | rfl | rfl | rfl | rfl
    · exact (call_beginE X w g ms h t ht key to val hlast).mono (fun e w' q => ⟨.slice none 0 0, .slice none 0 0, ⟨(mBegin ms).2.2, (mBegin ms).2.1, ⟨#[]⟩, false, [], [], 0⟩, q.1, rfl, nl _, nd _, .inl rfl, nM q.2.1, q.2.2⟩)
    · exact (call_get X w g ms h t ht key to val).mono (fun e w' q => ⟨.slice none 0 0, .slice none 0 0, ⟨(mGet ms t key).2.2.2, 0, (mGet ms t key).2.1, (mGet ms t key).2.2.1, [], [], 0⟩, q.1, rfl, nl _, nd _, .inl rfl, nM q.2.1, q.2.2⟩)
    · exact (call_scanE X w g ms h t ht key to val).mono (fun e w' ⟨pv, l8, q1, q2, q3, q4, q5⟩ => ⟨pv, .slice none 0 0, ⟨(mScan ms t key to).2, 0, ⟨#[]⟩, false, l8, [], 0⟩, q1, ⟨l8, q3, rfl⟩, q2, nd _, .inr rfl, q4.mono (fun i hi => hi.imp id (fun h => h.elim id (fun h => absurd h (hn i)))), q5⟩)
    · exact (call_put X w g ms h t ht key to val).mono (fun e w' q => ⟨.slice none 0 0, .slice none 0 0, ⟨(mWrite ms t ⟨key, val, false⟩).2, 0, ⟨#[]⟩, false, [], [], 0⟩, q.1, rfl, nl _, nd _, .inl rfl, nM q.2.1, q.2.2⟩)
    · exact (call_delete X w g ms h t ht key to val).mono (fun e w' q => ⟨.slice none 0 0, .slice none 0 0, ⟨(mWrite ms t ⟨key, ⟨#[]⟩, true⟩).2, 0, ⟨#[]⟩, false, [], [], 0⟩, q.1, rfl, nl _, nd _, .inl rfl, nM q.2.1, q.2.2⟩)
    · exact (call_commitE X w g ms h t ht key to val hnow).mono (fun e w' ⟨pv, q1, q2, q4, q5⟩ => ⟨.slice none 0 0, pv, ⟨(mCommit ms t).2.2.2, 0, ⟨#[]⟩, false, [], (mCommit ms t).2.1, (mCommit ms t).2.2.1⟩, q1, rfl, nl _, q2, .inl rfl, q4.mono (fun i hi => hi.imp id (fun h => h.elim (fun h => absurd h (hn i)) id)), q5⟩)
    · exact (call_abortE X w g ms h t ht key to val).mono (fun e w' q => ⟨.slice none 0 0, .slice none 0 0, ⟨(mAbort ms t).2, 0, ⟨#[]⟩, false, [], [], 0⟩, q.1, rfl, nl _, nd _, .inl rfl, nM q.2.1, q.2.2⟩)
  · have hd : mDo ms k t key to val = ms := by
      unfold mDo
      rw [if_neg (by omega), if_neg (by omega), if_neg (by omega), if_neg (by omega), if_neg (by omega), if_neg (by omega), if_neg (by omega)]
    have hA : AnOk ms k t key to val ⟨15, 0, ⟨#[]⟩, false, [], [], 0⟩ := by
      unfold AnOk
      rw [if_neg (by omega), if_neg (by omega), if_neg (by omega), if_neg (by omega), if_neg (by omega), if_neg (by omega), if_neg (by omega)]
    rw [hd]
    exact (call_otherE X w g ms h k hk t key to val).mono (fun e w' q => ⟨.slice none 0 0, .slice none 0 0, ⟨15, 0, ⟨#[]⟩, false, [], [], 0⟩, q.1, hA, nl _, nd _, .inl rfl, nM q.2.1, q.2.2⟩)
theorem duo_call {X : Nat → Prop} {w : World} {g g' : Nat} {ms ms' : Mg} (h : Duo X w g g' ms ms') (k : Nat) (t : Int) (ht : -9223372036854775808 ≤ t ∧ t ≤ 9223372036854775807) (key to val : ByteArray) (hlast : ms.last + 1 < 4611686018427387904) (hnow : ms.now + 1 < 18446744073709551616) :
    Calls Tryz.prog 26 #[.pointer (some ⟨g, 0, none⟩), .agg #[.int .u8 (k : Nat), .int .i64 t, .string key, .string to, .string val]] w fun e w' => ∃ (pv dv : Value) (A : An), e = .returned (.agg #[.int .i64 A.why, .int .i64 A.tx, .string A.val, .bool A.is, pv, dv, .int .u64 (A.time : Nat)]) ∧ AnOk ms k t key to val A ∧ w'.ownsRow w.heap.size 62 2 pv A.pairs.length (A.pairs.flatMap prc) ∧ w'.ownsRow w.heap.size 64 3 dv A.done.length (A.done.flatMap wtc) ∧ (pv = .slice none 0 0 ∨ dv = .slice none 0 0) ∧ Duo (fun j => X j ∨ (pv.ownBlock = some j ∨ dv.ownBlock = some j)) w' g g' (mDo ms k t key to val) ms' ∧ Frm (fun i => ¬ X i) w w' := by
  obtain ⟨Y, hY, hM, hback⟩ := h.left
  exact (call_own Y w g ms hM k t ht key to val hlast hnow).mono (fun e w' ⟨pv, dv, A, q1, q2, q3, q4, q5, q6, q7⟩ => ⟨pv, dv, A, q1, q2, q3, q4, q5, hback _ w' _ q6 q7 (fun j hj => hj.elim (fun h => (q3.lt j h).1) (fun h => (q4.lt j h).1)), q7.mono (fun i _ hi hx => hi (hY i hx))⟩)
end Go.Proofs.YtlkmcbelmldleaaGreat
/- a step at one of two managers -/
namespace Go.Proofs.YtlkmcbelmldleaaGreat
open Go.RowKit
set_option maxRecDepth 40000
set_option linter.unusedVariables false
theorem duo_do {X : Nat → Prop} {w : World} {g g' : Nat} {ms ms' : Mg} (h : Duo X w g g' ms ms') (k : Nat) (t : Int) (ht : -9223372036854775808 ≤ t ∧ t ≤ 9223372036854775807) (key to val : ByteArray) (hlast : ms.last + 1 < 4611686018427387904) (hnow : ms.now + 1 < 18446744073709551616) :
    Calls Tryz.prog 19 #[.pointer (some ⟨g, 0, none⟩), .agg #[.int .u8 (k : Nat), .int .i64 t, .string key, .string to, .string val]] w fun e w' => ∃ (v : Value) (A : An) (Z : Nat → Prop), e = .returned v ∧ AnOk ms k t key to val A ∧ Has w' Z v A ∧ (∀ j, Z j → w.heap.size ≤ j) ∧ Duo (fun j => X j ∨ Z j) w' g g' (mDo ms k t key to val) ms' ∧ Frm (fun i => ¬ X i) w w' := by
  obtain ⟨Y, hY, hM, hback⟩ := h.left
  exact (do_ans Y w g ms hM k t ht key to val hlast hnow).mono (fun e w' ⟨v, A, Z, q1, q2, q3, q4, q5, q6⟩ => ⟨v, A, Z, q1, q2, q3, q4, hback Z w' _ q5 q6 q4, q6.mono (fun i _ hi hx => hi (hY i hx))⟩)
theorem duo_srt {X : Nat → Prop} {w : World} {g g' : Nat} {ms ms' : Mg} (h : Duo X w g g' ms ms') : WsOk ms := by
  obtain ⟨Y, _, hM, _⟩ := h.left
  exact hM.srt
end Go.Proofs.YtlkmcbelmldleaaGreat

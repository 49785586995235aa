/- Sg Sh Si Sj Sk Gd -/
import Derived.Test.YtlkmcbelmldleaaGreatDx2
import Derived.Test.YtlkmcbelmldleaaGreatDx1
import Derived.Test.YtlkmcbelmldleaaGreatCx6
import Derived.Test.YtlkmcbelmldleaaGreatCx4
/- Do: its answers -/
namespace Go.Proofs.YtlkmcbelmldleaaGreat
open Go.RowKit
open Go.Maps (Keyed has size)
set_option maxRecDepth 40000
set_option linter.unusedVariables false
set_option maxHeartbeats 4000000 in
theorem do_beginE (X : Nat → Prop) (w : World) (g : Nat) (ms : Mg) (h : Mn X w g ms) (t : Int) (ht : -9223372036854775808 ≤ t ∧ t ≤ 9223372036854775807) (key to val : ByteArray) (hlast : ms.last + 1 < 4611686018427387904) :
    Calls Tryz.prog 19 #[.pointer (some ⟨g, 0, none⟩), .agg #[.int .u8 1, .int .i64 t, .string key, .string to, .string val]] w fun e w' => e = .returned (.agg #[.int .i64 (mBegin ms).2.2, .int .i64 (mBegin ms).2.1, .string ⟨#[]⟩, .bool false, .slice none 0 0, .slice none 0 0, .int .u64 0]) ∧ Mn X w' g (mBegin ms).1 ∧ Frm (fun i => ¬ X i) w w' := by
  have HB : Hid (Below w.heap.size w (((w.alloc (.cells #[.int .u8 1, .int .i64 t, .string key, .string to, .string val] 40)).alloc (.cells #[.int .i64 0, .int .i64 0, .string ⟨#[]⟩, .bool false, .slice none 0 0, .slice none 0 0, .int .u64 0] 47)).alloc (.cells #[.int .i64 0, .int .i64 0, .string ⟨#[]⟩, .bool false, .slice none 0 0, .slice none 0 0, .int .u64 0] 47))) := hide ((((Below.refl _ w).alloc (Nat.le_refl _) _).alloc (by simp) _).alloc (by simp; omega) _)
  have HM := hide (h.news HB.out)
  have HC := hide (mn_begin _ _ g ms HM.out hlast)
  have hsz1 : (w.alloc (.cells #[.int .u8 1, .int .i64 t, .string key, .string to, .string val] 40)).heap.size = w.heap.size + 1 := World.size_alloc _ _
  have hsz2 : ((w.alloc (.cells #[.int .u8 1, .int .i64 t, .string key, .string to, .string val] 40)).alloc (.cells #[.int .i64 0, .int .i64 0, .string ⟨#[]⟩, .bool false, .slice none 0 0, .slice none 0 0, .int .u64 0] 47)).heap.size = w.heap.size + 1 + 1 := by rw [World.size_alloc, hsz1]
  have HSV : Hid ((((w.alloc (.cells #[.int .u8 1, .int .i64 t, .string key, .string to, .string val] 40)).alloc (.cells #[.int .i64 0, .int .i64 0, .string ⟨#[]⟩, .bool false, .slice none 0 0, .slice none 0 0, .int .u64 0] 47)).alloc (.cells #[.int .i64 0, .int .i64 0, .string ⟨#[]⟩, .bool false, .slice none 0 0, .slice none 0 0, .int .u64 0] 47)).heap.size = w.heap.size + 1 + 1 + 1) := hide (by rw [World.size_alloc, hsz2])
  have HV4 : Hid ((((w.alloc (.cells #[.int .u8 1, .int .i64 t, .string key, .string to, .string val] 40)).alloc (.cells #[.int .i64 0, .int .i64 0, .string ⟨#[]⟩, .bool false, .slice none 0 0, .slice none 0 0, .int .u64 0] 47)).alloc (.cells #[.int .i64 0, .int .i64 0, .string ⟨#[]⟩, .bool false, .slice none 0 0, .slice none 0 0, .int .u64 0] 47)).heap[w.heap.size + 1]? = some (.cells #[.int .i64 0, .int .i64 0, .string ⟨#[]⟩, .bool false, .slice none 0 0, .slice none 0 0, .int .u64 0] 47 (0, 0))) := hide ((Below.heap_alloc _ _ _ (by rw [hsz2]; omega)).trans (by have := heap_alloc_new (w.alloc (.cells #[.int .u8 1, .int .i64 t, .string key, .string to, .string val] 40)) (.cells #[.int .i64 0, .int .i64 0, .string ⟨#[]⟩, .bool false, .slice none 0 0, .slice none 0 0, .int .u64 0] 47); rw [hsz1] at this; exact this))
  have HV5 : Hid ((((w.alloc (.cells #[.int .u8 1, .int .i64 t, .string key, .string to, .string val] 40)).alloc (.cells #[.int .i64 0, .int .i64 0, .string ⟨#[]⟩, .bool false, .slice none 0 0, .slice none 0 0, .int .u64 0] 47)).alloc (.cells #[.int .i64 0, .int .i64 0, .string ⟨#[]⟩, .bool false, .slice none 0 0, .slice none 0 0, .int .u64 0] 47)).heap[w.heap.size + 1 + 1]? = some (.cells #[.int .i64 0, .int .i64 0, .string ⟨#[]⟩, .bool false, .slice none 0 0, .slice none 0 0, .int .u64 0] 47 (0, 0))) := hide (by have := heap_alloc_new ((w.alloc (.cells #[.int .u8 1, .int .i64 t, .string key, .string to, .string val] 40)).alloc (.cells #[.int .i64 0, .int .i64 0, .string ⟨#[]⟩, .bool false, .slice none 0 0, .slice none 0 0, .int .u64 0] 47)) (.cells #[.int .i64 0, .int .i64 0, .string ⟨#[]⟩, .bool false, .slice none 0 0, .slice none 0 0, .int .u64 0] 47); rw [hsz2] at this; exact this)
  clear h ht hsz1 hsz2
  go_enter Tryz.func19, Tryz.ntmps19
  go_wp2_with fail
  refine HC.out.mono ?_
  rintro e w1 ⟨rfl, hM, hF⟩
  have HM1 := hide hM
  have HF1 := hide hF
  have HW4 : Hid (w1.heap[w.heap.size + 1]? = some (.cells #[.int .i64 0, .int .i64 0, .string ⟨#[]⟩, .bool false, .slice none 0 0, .slice none 0 0, .int .u64 0] 47 (0, 0))) := hide ((hF.block _ (heap_lt HV4.out) (fun hn => hn (.inr ⟨by omega, by have := HSV.out; omega⟩))).trans HV4.out)
  have HW5 : Hid (w1.heap[w.heap.size + 1 + 1]? = some (.cells #[.int .i64 0, .int .i64 0, .string ⟨#[]⟩, .bool false, .slice none 0 0, .slice none 0 0, .int .u64 0] 47 (0, 0))) := hide ((hF.block _ (heap_lt HV5.out) (fun hn => hn (.inr ⟨by omega, by have := HSV.out; omega⟩))).trans HV5.out)
  clear hM hF HC
  have HX : Hid (∀ i, (w.heap.size ≤ i ∧ i < (((w.alloc (.cells #[.int .u8 1, .int .i64 t, .string key, .string to, .string val] 40)).alloc (.cells #[.int .i64 0, .int .i64 0, .string ⟨#[]⟩, .bool false, .slice none 0 0, .slice none 0 0, .int .u64 0] 47)).alloc (.cells #[.int .i64 0, .int .i64 0, .string ⟨#[]⟩, .bool false, .slice none 0 0, .slice none 0 0, .int .u64 0] 47)).heap.size) → (X i ∨ (w.heap.size ≤ i ∧ i < (((w.alloc (.cells #[.int .u8 1, .int .i64 t, .string key, .string to, .string val] 40)).alloc (.cells #[.int .i64 0, .int .i64 0, .string ⟨#[]⟩, .bool false, .slice none 0 0, .slice none 0 0, .int .u64 0] 47)).alloc (.cells #[.int .i64 0, .int .i64 0, .string ⟨#[]⟩, .bool false, .slice none 0 0, .slice none 0 0, .int .u64 0] 47)).heap.size))) := hide (fun i hi => .inr hi)
  have HX0 : Hid (∀ i, X i → (X i ∨ (w.heap.size ≤ i ∧ i < (((w.alloc (.cells #[.int .u8 1, .int .i64 t, .string key, .string to, .string val] 40)).alloc (.cells #[.int .i64 0, .int .i64 0, .string ⟨#[]⟩, .bool false, .slice none 0 0, .slice none 0 0, .int .u64 0] 47)).alloc (.cells #[.int .i64 0, .int .i64 0, .string ⟨#[]⟩, .bool false, .slice none 0 0, .slice none 0 0, .int .u64 0] 47)).heap.size))) := hide (fun i hi => .inl hi)
  have a0 : w1.cell? ⟨w.heap.size + 1 + 1, 0, none⟩ = some (.int .i64 0) := cell_blk HW5.out rfl
  have b0 : w1.cell? ⟨w.heap.size + 1, 0, none⟩ = some (.int .i64 0) := cell_blk HW4.out rfl
  have g0 : w1.frozen? ⟨w.heap.size + 1, 0, none⟩ = false := frz HW4.out 0
  have a1 : w1.cell? ⟨w.heap.size + 1 + 1, 1, none⟩ = some (.int .i64 0) := cell_blk HW5.out rfl
  have b1 : w1.cell? ⟨w.heap.size + 1, 1, none⟩ = some (.int .i64 0) := cell_blk HW4.out rfl
  have g1 : w1.frozen? ⟨w.heap.size + 1, 1, none⟩ = false := frz HW4.out 1
  have a2 : w1.cell? ⟨w.heap.size + 1 + 1, 2, none⟩ = some (.string ⟨#[]⟩) := cell_blk HW5.out rfl
  have b2 : w1.cell? ⟨w.heap.size + 1, 2, none⟩ = some (.string ⟨#[]⟩) := cell_blk HW4.out rfl
  have g2 : w1.frozen? ⟨w.heap.size + 1, 2, none⟩ = false := frz HW4.out 2
  have a3 : w1.cell? ⟨w.heap.size + 1 + 1, 3, none⟩ = some (.bool false) := cell_blk HW5.out rfl
  have b3 : w1.cell? ⟨w.heap.size + 1, 3, none⟩ = some (.bool false) := cell_blk HW4.out rfl
  have g3 : w1.frozen? ⟨w.heap.size + 1, 3, none⟩ = false := frz HW4.out 3
  have a4 : w1.cell? ⟨w.heap.size + 1 + 1, 4, none⟩ = some (.slice none 0 0) := cell_blk HW5.out rfl
  have b4 : w1.cell? ⟨w.heap.size + 1, 4, none⟩ = some (.slice none 0 0) := cell_blk HW4.out rfl
  have g4 : w1.frozen? ⟨w.heap.size + 1, 4, none⟩ = false := frz HW4.out 4
  have a5 : w1.cell? ⟨w.heap.size + 1 + 1, 5, none⟩ = some (.slice none 0 0) := cell_blk HW5.out rfl
  have b5 : w1.cell? ⟨w.heap.size + 1, 5, none⟩ = some (.slice none 0 0) := cell_blk HW4.out rfl
  have g5 : w1.frozen? ⟨w.heap.size + 1, 5, none⟩ = false := frz HW4.out 5
  have a6 : w1.cell? ⟨w.heap.size + 1 + 1, 6, none⟩ = some (.int .u64 0) := cell_blk HW5.out rfl
  have b6 : w1.cell? ⟨w.heap.size + 1, 6, none⟩ = some (.int .u64 0) := cell_blk HW4.out rfl
  have g6 : w1.frozen? ⟨w.heap.size + 1, 6, none⟩ = false := frz HW4.out 6
  have f1 : w1.frozen? ⟨w.heap.size + 1 + 1, 1, none⟩ = false := frz HW5.out 1
  have f0 : w1.frozen? ⟨w.heap.size + 1 + 1, 0, none⟩ = false := frz HW5.out 0
  have HT : Hid ((((((((((w1.setCell ⟨w.heap.size + 1 + 1, 1, none⟩ (.int .i64 (mBegin ms).2.1)).setCell ⟨w.heap.size + 1 + 1, 0, none⟩ (.int .i64 (mBegin ms).2.2)).setCell ⟨w.heap.size + 1, 0, none⟩ (.int .i64 (mBegin ms).2.2)).setCell ⟨w.heap.size + 1, 1, none⟩ (.int .i64 (mBegin ms).2.1)).setCell ⟨w.heap.size + 1, 2, none⟩ (.string ⟨#[]⟩)).setCell ⟨w.heap.size + 1, 3, none⟩ (.bool false)).setCell ⟨w.heap.size + 1, 4, none⟩ (.slice none 0 0)).setCell ⟨w.heap.size + 1, 5, none⟩ (.slice none 0 0)).setCell ⟨w.heap.size + 1, 6, none⟩ (.int .u64 0)).heap[w.heap.size + 1]? = some (.cells #[.int .i64 (mBegin ms).2.2, .int .i64 (mBegin ms).2.1, .string ⟨#[]⟩, .bool false, .slice none 0 0, .slice none 0 0, .int .u64 0] 47 (0, 0))) := hide (by
    have p0 : ((w1.setCell ⟨w.heap.size + 1 + 1, 1, none⟩ (.int .i64 (mBegin ms).2.1)).setCell ⟨w.heap.size + 1 + 1, 0, none⟩ (.int .i64 (mBegin ms).2.2)).heap[w.heap.size + 1]? = some (.cells #[.int .i64 0, .int .i64 0, .string ⟨#[]⟩, .bool false, .slice none 0 0, .slice none 0 0, .int .u64 0] 47 (0, 0)) := (Below.heap_setCell _ _ _ _ (by simp)).trans ((Below.heap_setCell _ _ _ _ (by simp)).trans (HW4.out))
    have p1 := blk_set2 (j := 0) p0 (.int .i64 (mBegin ms).2.2)
    have p2 := blk_set2 (j := 1) p1 (.int .i64 (mBegin ms).2.1)
    have p3 := blk_set2 (j := 2) p2 (.string ⟨#[]⟩)
    have p4 := blk_set2 (j := 3) p3 (.bool false)
    have p5 := blk_set2 (j := 4) p4 (.slice none 0 0)
    have p6 := blk_set2 (j := 5) p5 (.slice none 0 0)
    have p7 := blk_set2 (j := 6) p6 (.int .u64 0)
    simpa using p7)
  have HFE : Hid (Frm (fun i => ¬ X i) w (((((((((w1.setCell ⟨w.heap.size + 1 + 1, 1, none⟩ (.int .i64 (mBegin ms).2.1)).setCell ⟨w.heap.size + 1 + 1, 0, none⟩ (.int .i64 (mBegin ms).2.2)).setCell ⟨w.heap.size + 1, 0, none⟩ (.int .i64 (mBegin ms).2.2)).setCell ⟨w.heap.size + 1, 1, none⟩ (.int .i64 (mBegin ms).2.1)).setCell ⟨w.heap.size + 1, 2, none⟩ (.string ⟨#[]⟩)).setCell ⟨w.heap.size + 1, 3, none⟩ (.bool false)).setCell ⟨w.heap.size + 1, 4, none⟩ (.slice none 0 0)).setCell ⟨w.heap.size + 1, 5, none⟩ (.slice none 0 0)).setCell ⟨w.heap.size + 1, 6, none⟩ (.int .u64 0)) ∧ Mn X (((((((((w1.setCell ⟨w.heap.size + 1 + 1, 1, none⟩ (.int .i64 (mBegin ms).2.1)).setCell ⟨w.heap.size + 1 + 1, 0, none⟩ (.int .i64 (mBegin ms).2.2)).setCell ⟨w.heap.size + 1, 0, none⟩ (.int .i64 (mBegin ms).2.2)).setCell ⟨w.heap.size + 1, 1, none⟩ (.int .i64 (mBegin ms).2.1)).setCell ⟨w.heap.size + 1, 2, none⟩ (.string ⟨#[]⟩)).setCell ⟨w.heap.size + 1, 3, none⟩ (.bool false)).setCell ⟨w.heap.size + 1, 4, none⟩ (.slice none 0 0)).setCell ⟨w.heap.size + 1, 5, none⟩ (.slice none 0 0)).setCell ⟨w.heap.size + 1, 6, none⟩ (.int .u64 0)) g (mBegin ms).1) := hide (by
    have h0 : Frm (fun i => ¬ X i) w w1 := ⟨by rw [HF1.out.os]; exact HB.out.os, by rw [HF1.out.tape]; exact HB.out.tape, by rw [HF1.out.output]; exact HB.out.output, Nat.le_trans HB.out.size HF1.out.size, fun i hi hn => (HF1.out.block i (Nat.lt_of_lt_of_le hi HB.out.size) (fun hq => hq (.inl (Classical.not_not.1 hn)))).trans (HB.out.block i hi)⟩
    have hx5 : w.heap.size ≤ w.heap.size + 1 + 1 ∧ w.heap.size + 1 + 1 < (((w.alloc (.cells #[.int .u8 1, .int .i64 t, .string key, .string to, .string val] 40)).alloc (.cells #[.int .i64 0, .int .i64 0, .string ⟨#[]⟩, .bool false, .slice none 0 0, .slice none 0 0, .int .u64 0] 47)).alloc (.cells #[.int .i64 0, .int .i64 0, .string ⟨#[]⟩, .bool false, .slice none 0 0, .slice none 0 0, .int .u64 0] 47)).heap.size := ⟨by omega, by have := HSV.out; omega⟩
    have hx4 : w.heap.size ≤ w.heap.size + 1 ∧ w.heap.size + 1 < (((w.alloc (.cells #[.int .u8 1, .int .i64 t, .string key, .string to, .string val] 40)).alloc (.cells #[.int .i64 0, .int .i64 0, .string ⟨#[]⟩, .bool false, .slice none 0 0, .slice none 0 0, .int .u64 0] 47)).alloc (.cells #[.int .i64 0, .int .i64 0, .string ⟨#[]⟩, .bool false, .slice none 0 0, .slice none 0 0, .int .u64 0] 47)).heap.size := ⟨by omega, by have := HSV.out; omega⟩
    exact ⟨(Frm.setFar (Frm.setFar (Frm.setFar (Frm.setFar (Frm.setFar (Frm.setFar (Frm.setFar (Frm.setFar (Frm.setFar h0 (by simp; omega) _) (by simp; omega) _) (by simp) _) (by simp) _) (by simp) _) (by simp) _) (by simp) _) (by simp) _) (by simp) _), Mn.mono (Mn.setX (Mn.setX (Mn.setX (Mn.setX (Mn.setX (Mn.setX (Mn.setX (Mn.setX (Mn.setX HM1.out (HX.out _ hx5) _) (HX.out _ hx5) _) (HX.out _ hx4) _) (HX.out _ hx4) _) (HX.out _ hx4) _) (HX.out _ hx4) _) (HX.out _ hx4) _) (HX.out _ hx4) _) (HX.out _ hx4) _) (fun i hi => HX0.out i hi)⟩)
  clear HM1 HF1 HV4 HV5 HW4 HW5 HM HB HSV
  go_wp2
  refine bodyPost_ret (results_cell_row (P := Tryz.prog) (p := 4) (ty := 47) rfl _ _ _ 47 _ (0, 0) _ rfl HT.out Tryz.underlying47 rfl (by kernel_rfl)) rfl ?_
  exact ⟨rfl, HFE.out.2, HFE.out.1⟩
set_option maxHeartbeats 4000000 in
theorem do_abortE (X : Nat → Prop) (w : World) (g : Nat) (ms : Mg) (h : Mn X w g ms) (t : Int) (ht : -9223372036854775808 ≤ t ∧ t ≤ 9223372036854775807) (key to val : ByteArray) :
    Calls Tryz.prog 19 #[.pointer (some ⟨g, 0, none⟩), .agg #[.int .u8 7, .int .i64 t, .string key, .string to, .string val]] w fun e w' => e = .returned (.agg #[.int .i64 (mAbort ms t).2, .int .i64 0, .string ⟨#[]⟩, .bool false, .slice none 0 0, .slice none 0 0, .int .u64 0]) ∧ Mn X w' g (mAbort ms t).1 ∧ Frm (fun i => ¬ X i) w w' := by
  have HB : Hid (Below w.heap.size w (((w.alloc (.cells #[.int .u8 7, .int .i64 t, .string key, .string to, .string val] 40)).alloc (.cells #[.int .i64 0, .int .i64 0, .string ⟨#[]⟩, .bool false, .slice none 0 0, .slice none 0 0, .int .u64 0] 47)).alloc (.cells #[.int .i64 0, .int .i64 0, .string ⟨#[]⟩, .bool false, .slice none 0 0, .slice none 0 0, .int .u64 0] 47))) := hide ((((Below.refl _ w).alloc (Nat.le_refl _) _).alloc (by simp) _).alloc (by simp; omega) _)
  have HM := hide (h.news HB.out)
  have HC := hide (mn_abort _ _ g ms HM.out t ht)
  have hsz1 : (w.alloc (.cells #[.int .u8 7, .int .i64 t, .string key, .string to, .string val] 40)).heap.size = w.heap.size + 1 := World.size_alloc _ _
  have hsz2 : ((w.alloc (.cells #[.int .u8 7, .int .i64 t, .string key, .string to, .string val] 40)).alloc (.cells #[.int .i64 0, .int .i64 0, .string ⟨#[]⟩, .bool false, .slice none 0 0, .slice none 0 0, .int .u64 0] 47)).heap.size = w.heap.size + 1 + 1 := by rw [World.size_alloc, hsz1]
  have HSV : Hid ((((w.alloc (.cells #[.int .u8 7, .int .i64 t, .string key, .string to, .string val] 40)).alloc (.cells #[.int .i64 0, .int .i64 0, .string ⟨#[]⟩, .bool false, .slice none 0 0, .slice none 0 0, .int .u64 0] 47)).alloc (.cells #[.int .i64 0, .int .i64 0, .string ⟨#[]⟩, .bool false, .slice none 0 0, .slice none 0 0, .int .u64 0] 47)).heap.size = w.heap.size + 1 + 1 + 1) := hide (by rw [World.size_alloc, hsz2])
  have HV4 : Hid ((((w.alloc (.cells #[.int .u8 7, .int .i64 t, .string key, .string to, .string val] 40)).alloc (.cells #[.int .i64 0, .int .i64 0, .string ⟨#[]⟩, .bool false, .slice none 0 0, .slice none 0 0, .int .u64 0] 47)).alloc (.cells #[.int .i64 0, .int .i64 0, .string ⟨#[]⟩, .bool false, .slice none 0 0, .slice none 0 0, .int .u64 0] 47)).heap[w.heap.size + 1]? = some (.cells #[.int .i64 0, .int .i64 0, .string ⟨#[]⟩, .bool false, .slice none 0 0, .slice none 0 0, .int .u64 0] 47 (0, 0))) := hide ((Below.heap_alloc _ _ _ (by rw [hsz2]; omega)).trans (by have := heap_alloc_new (w.alloc (.cells #[.int .u8 7, .int .i64 t, .string key, .string to, .string val] 40)) (.cells #[.int .i64 0, .int .i64 0, .string ⟨#[]⟩, .bool false, .slice none 0 0, .slice none 0 0, .int .u64 0] 47); rw [hsz1] at this; exact this))
  have HV5 : Hid ((((w.alloc (.cells #[.int .u8 7, .int .i64 t, .string key, .string to, .string val] 40)).alloc (.cells #[.int .i64 0, .int .i64 0, .string ⟨#[]⟩, .bool false, .slice none 0 0, .slice none 0 0, .int .u64 0] 47)).alloc (.cells #[.int .i64 0, .int .i64 0, .string ⟨#[]⟩, .bool false, .slice none 0 0, .slice none 0 0, .int .u64 0] 47)).heap[w.heap.size + 1 + 1]? = some (.cells #[.int .i64 0, .int .i64 0, .string ⟨#[]⟩, .bool false, .slice none 0 0, .slice none 0 0, .int .u64 0] 47 (0, 0))) := hide (by have := heap_alloc_new ((w.alloc (.cells #[.int .u8 7, .int .i64 t, .string key, .string to, .string val] 40)).alloc (.cells #[.int .i64 0, .int .i64 0, .string ⟨#[]⟩, .bool false, .slice none 0 0, .slice none 0 0, .int .u64 0] 47)) (.cells #[.int .i64 0, .int .i64 0, .string ⟨#[]⟩, .bool false, .slice none 0 0, .slice none 0 0, .int .u64 0] 47); rw [hsz2] at this; exact this)
  clear h ht hsz1 hsz2
  go_enter Tryz.func19, Tryz.ntmps19
  go_wp2_with fail
  refine HC.out.mono ?_
  rintro e w1 ⟨rfl, hM, hF⟩
  have HM1 := hide hM
  have HF1 := hide hF
  have HW4 : Hid (w1.heap[w.heap.size + 1]? = some (.cells #[.int .i64 0, .int .i64 0, .string ⟨#[]⟩, .bool false, .slice none 0 0, .slice none 0 0, .int .u64 0] 47 (0, 0))) := hide ((hF.block _ (heap_lt HV4.out) (fun hn => hn (.inr ⟨by omega, by have := HSV.out; omega⟩))).trans HV4.out)
  have HW5 : Hid (w1.heap[w.heap.size + 1 + 1]? = some (.cells #[.int .i64 0, .int .i64 0, .string ⟨#[]⟩, .bool false, .slice none 0 0, .slice none 0 0, .int .u64 0] 47 (0, 0))) := hide ((hF.block _ (heap_lt HV5.out) (fun hn => hn (.inr ⟨by omega, by have := HSV.out; omega⟩))).trans HV5.out)
  clear hM hF HC
  have HX : Hid (∀ i, (w.heap.size ≤ i ∧ i < (((w.alloc (.cells #[.int .u8 7, .int .i64 t, .string key, .string to, .string val] 40)).alloc (.cells #[.int .i64 0, .int .i64 0, .string ⟨#[]⟩, .bool false, .slice none 0 0, .slice none 0 0, .int .u64 0] 47)).alloc (.cells #[.int .i64 0, .int .i64 0, .string ⟨#[]⟩, .bool false, .slice none 0 0, .slice none 0 0, .int .u64 0] 47)).heap.size) → (X i ∨ (w.heap.size ≤ i ∧ i < (((w.alloc (.cells #[.int .u8 7, .int .i64 t, .string key, .string to, .string val] 40)).alloc (.cells #[.int .i64 0, .int .i64 0, .string ⟨#[]⟩, .bool false, .slice none 0 0, .slice none 0 0, .int .u64 0] 47)).alloc (.cells #[.int .i64 0, .int .i64 0, .string ⟨#[]⟩, .bool false, .slice none 0 0, .slice none 0 0, .int .u64 0] 47)).heap.size))) := hide (fun i hi => .inr hi)
  have HX0 : Hid (∀ i, X i → (X i ∨ (w.heap.size ≤ i ∧ i < (((w.alloc (.cells #[.int .u8 7, .int .i64 t, .string key, .string to, .string val] 40)).alloc (.cells #[.int .i64 0, .int .i64 0, .string ⟨#[]⟩, .bool false, .slice none 0 0, .slice none 0 0, .int .u64 0] 47)).alloc (.cells #[.int .i64 0, .int .i64 0, .string ⟨#[]⟩, .bool false, .slice none 0 0, .slice none 0 0, .int .u64 0] 47)).heap.size))) := hide (fun i hi => .inl hi)
  have a0 : w1.cell? ⟨w.heap.size + 1 + 1, 0, none⟩ = some (.int .i64 0) := cell_blk HW5.out rfl
  have b0 : w1.cell? ⟨w.heap.size + 1, 0, none⟩ = some (.int .i64 0) := cell_blk HW4.out rfl
  have g0 : w1.frozen? ⟨w.heap.size + 1, 0, none⟩ = false := frz HW4.out 0
  have a1 : w1.cell? ⟨w.heap.size + 1 + 1, 1, none⟩ = some (.int .i64 0) := cell_blk HW5.out rfl
  have b1 : w1.cell? ⟨w.heap.size + 1, 1, none⟩ = some (.int .i64 0) := cell_blk HW4.out rfl
  have g1 : w1.frozen? ⟨w.heap.size + 1, 1, none⟩ = false := frz HW4.out 1
  have a2 : w1.cell? ⟨w.heap.size + 1 + 1, 2, none⟩ = some (.string ⟨#[]⟩) := cell_blk HW5.out rfl
  have b2 : w1.cell? ⟨w.heap.size + 1, 2, none⟩ = some (.string ⟨#[]⟩) := cell_blk HW4.out rfl
  have g2 : w1.frozen? ⟨w.heap.size + 1, 2, none⟩ = false := frz HW4.out 2
  have a3 : w1.cell? ⟨w.heap.size + 1 + 1, 3, none⟩ = some (.bool false) := cell_blk HW5.out rfl
  have b3 : w1.cell? ⟨w.heap.size + 1, 3, none⟩ = some (.bool false) := cell_blk HW4.out rfl
  have g3 : w1.frozen? ⟨w.heap.size + 1, 3, none⟩ = false := frz HW4.out 3
  have a4 : w1.cell? ⟨w.heap.size + 1 + 1, 4, none⟩ = some (.slice none 0 0) := cell_blk HW5.out rfl
  have b4 : w1.cell? ⟨w.heap.size + 1, 4, none⟩ = some (.slice none 0 0) := cell_blk HW4.out rfl
  have g4 : w1.frozen? ⟨w.heap.size + 1, 4, none⟩ = false := frz HW4.out 4
  have a5 : w1.cell? ⟨w.heap.size + 1 + 1, 5, none⟩ = some (.slice none 0 0) := cell_blk HW5.out rfl
  have b5 : w1.cell? ⟨w.heap.size + 1, 5, none⟩ = some (.slice none 0 0) := cell_blk HW4.out rfl
  have g5 : w1.frozen? ⟨w.heap.size + 1, 5, none⟩ = false := frz HW4.out 5
  have a6 : w1.cell? ⟨w.heap.size + 1 + 1, 6, none⟩ = some (.int .u64 0) := cell_blk HW5.out rfl
  have b6 : w1.cell? ⟨w.heap.size + 1, 6, none⟩ = some (.int .u64 0) := cell_blk HW4.out rfl
  have g6 : w1.frozen? ⟨w.heap.size + 1, 6, none⟩ = false := frz HW4.out 6
  have f0 : w1.frozen? ⟨w.heap.size + 1 + 1, 0, none⟩ = false := frz HW5.out 0
  have HT : Hid (((((((((w1.setCell ⟨w.heap.size + 1 + 1, 0, none⟩ (.int .i64 (mAbort ms t).2)).setCell ⟨w.heap.size + 1, 0, none⟩ (.int .i64 (mAbort ms t).2)).setCell ⟨w.heap.size + 1, 1, none⟩ (.int .i64 0)).setCell ⟨w.heap.size + 1, 2, none⟩ (.string ⟨#[]⟩)).setCell ⟨w.heap.size + 1, 3, none⟩ (.bool false)).setCell ⟨w.heap.size + 1, 4, none⟩ (.slice none 0 0)).setCell ⟨w.heap.size + 1, 5, none⟩ (.slice none 0 0)).setCell ⟨w.heap.size + 1, 6, none⟩ (.int .u64 0)).heap[w.heap.size + 1]? = some (.cells #[.int .i64 (mAbort ms t).2, .int .i64 0, .string ⟨#[]⟩, .bool false, .slice none 0 0, .slice none 0 0, .int .u64 0] 47 (0, 0))) := hide (by
    have p0 : (w1.setCell ⟨w.heap.size + 1 + 1, 0, none⟩ (.int .i64 (mAbort ms t).2)).heap[w.heap.size + 1]? = some (.cells #[.int .i64 0, .int .i64 0, .string ⟨#[]⟩, .bool false, .slice none 0 0, .slice none 0 0, .int .u64 0] 47 (0, 0)) := (Below.heap_setCell _ _ _ _ (by simp)).trans (HW4.out)
    have p1 := blk_set2 (j := 0) p0 (.int .i64 (mAbort ms t).2)
    have p2 := blk_set2 (j := 1) p1 (.int .i64 0)
    have p3 := blk_set2 (j := 2) p2 (.string ⟨#[]⟩)
    have p4 := blk_set2 (j := 3) p3 (.bool false)
    have p5 := blk_set2 (j := 4) p4 (.slice none 0 0)
    have p6 := blk_set2 (j := 5) p5 (.slice none 0 0)
    have p7 := blk_set2 (j := 6) p6 (.int .u64 0)
    simpa using p7)
  have HFE : Hid (Frm (fun i => ¬ X i) w ((((((((w1.setCell ⟨w.heap.size + 1 + 1, 0, none⟩ (.int .i64 (mAbort ms t).2)).setCell ⟨w.heap.size + 1, 0, none⟩ (.int .i64 (mAbort ms t).2)).setCell ⟨w.heap.size + 1, 1, none⟩ (.int .i64 0)).setCell ⟨w.heap.size + 1, 2, none⟩ (.string ⟨#[]⟩)).setCell ⟨w.heap.size + 1, 3, none⟩ (.bool false)).setCell ⟨w.heap.size + 1, 4, none⟩ (.slice none 0 0)).setCell ⟨w.heap.size + 1, 5, none⟩ (.slice none 0 0)).setCell ⟨w.heap.size + 1, 6, none⟩ (.int .u64 0)) ∧ Mn X ((((((((w1.setCell ⟨w.heap.size + 1 + 1, 0, none⟩ (.int .i64 (mAbort ms t).2)).setCell ⟨w.heap.size + 1, 0, none⟩ (.int .i64 (mAbort ms t).2)).setCell ⟨w.heap.size + 1, 1, none⟩ (.int .i64 0)).setCell ⟨w.heap.size + 1, 2, none⟩ (.string ⟨#[]⟩)).setCell ⟨w.heap.size + 1, 3, none⟩ (.bool false)).setCell ⟨w.heap.size + 1, 4, none⟩ (.slice none 0 0)).setCell ⟨w.heap.size + 1, 5, none⟩ (.slice none 0 0)).setCell ⟨w.heap.size + 1, 6, none⟩ (.int .u64 0)) g (mAbort ms t).1) := hide (by
    have h0 : Frm (fun i => ¬ X i) w w1 := ⟨by rw [HF1.out.os]; exact HB.out.os, by rw [HF1.out.tape]; exact HB.out.tape, by rw [HF1.out.output]; exact HB.out.output, Nat.le_trans HB.out.size HF1.out.size, fun i hi hn => (HF1.out.block i (Nat.lt_of_lt_of_le hi HB.out.size) (fun hq => hq (.inl (Classical.not_not.1 hn)))).trans (HB.out.block i hi)⟩
    have hx5 : w.heap.size ≤ w.heap.size + 1 + 1 ∧ w.heap.size + 1 + 1 < (((w.alloc (.cells #[.int .u8 7, .int .i64 t, .string key, .string to, .string val] 40)).alloc (.cells #[.int .i64 0, .int .i64 0, .string ⟨#[]⟩, .bool false, .slice none 0 0, .slice none 0 0, .int .u64 0] 47)).alloc (.cells #[.int .i64 0, .int .i64 0, .string ⟨#[]⟩, .bool false, .slice none 0 0, .slice none 0 0, .int .u64 0] 47)).heap.size := ⟨by omega, by have := HSV.out; omega⟩
    have hx4 : w.heap.size ≤ w.heap.size + 1 ∧ w.heap.size + 1 < (((w.alloc (.cells #[.int .u8 7, .int .i64 t, .string key, .string to, .string val] 40)).alloc (.cells #[.int .i64 0, .int .i64 0, .string ⟨#[]⟩, .bool false, .slice none 0 0, .slice none 0 0, .int .u64 0] 47)).alloc (.cells #[.int .i64 0, .int .i64 0, .string ⟨#[]⟩, .bool false, .slice none 0 0, .slice none 0 0, .int .u64 0] 47)).heap.size := ⟨by omega, by have := HSV.out; omega⟩
    exact ⟨(Frm.setFar (Frm.setFar (Frm.setFar (Frm.setFar (Frm.setFar (Frm.setFar (Frm.setFar (Frm.setFar h0 (by simp; omega) _) (by simp) _) (by simp) _) (by simp) _) (by simp) _) (by simp) _) (by simp) _) (by simp) _), Mn.mono (Mn.setX (Mn.setX (Mn.setX (Mn.setX (Mn.setX (Mn.setX (Mn.setX (Mn.setX HM1.out (HX.out _ hx5) _) (HX.out _ hx4) _) (HX.out _ hx4) _) (HX.out _ hx4) _) (HX.out _ hx4) _) (HX.out _ hx4) _) (HX.out _ hx4) _) (HX.out _ hx4) _) (fun i hi => HX0.out i hi)⟩)
  clear HM1 HF1 HV4 HV5 HW4 HW5 HM HB HSV
  go_wp2
  refine bodyPost_ret (results_cell_row (P := Tryz.prog) (p := 4) (ty := 47) rfl _ _ _ 47 _ (0, 0) _ rfl HT.out Tryz.underlying47 rfl (by kernel_rfl)) rfl ?_
  exact ⟨rfl, HFE.out.2, HFE.out.1⟩
set_option maxHeartbeats 4000000 in
theorem do_scanE (X : Nat → Prop) (w : World) (g : Nat) (ms : Mg) (h : Mn X w g ms) (t : Int) (ht : -9223372036854775808 ≤ t ∧ t ≤ 9223372036854775807) (key to val : ByteArray) :
    Calls Tryz.prog 19 #[.pointer (some ⟨g, 0, none⟩), .agg #[.int .u8 3, .int .i64 t, .string key, .string to, .string val]] w fun e w' => ∃ (pv : Value) (l8 : List Pr), e = .returned (.agg #[.int .i64 (mScan ms t key to).2, .int .i64 0, .string ⟨#[]⟩, .bool false, pv, .slice none 0 0, .int .u64 0]) ∧ w'.ownsRow w.heap.size 62 2 pv l8.length (l8.flatMap prc) ∧ ScanL ms t key to l8 ∧ Mn (fun j => X j ∨ pv.ownBlock = some j) w' g (mScan ms t key to).1 ∧ Frm (fun i => ¬ X i) w w' := by
  have HB : Hid (Below w.heap.size w (((w.alloc (.cells #[.int .u8 3, .int .i64 t, .string key, .string to, .string val] 40)).alloc (.cells #[.int .i64 0, .int .i64 0, .string ⟨#[]⟩, .bool false, .slice none 0 0, .slice none 0 0, .int .u64 0] 47)).alloc (.cells #[.int .i64 0, .int .i64 0, .string ⟨#[]⟩, .bool false, .slice none 0 0, .slice none 0 0, .int .u64 0] 47))) := hide ((((Below.refl _ w).alloc (Nat.le_refl _) _).alloc (by simp) _).alloc (by simp; omega) _)
  have HM := hide (h.news HB.out)
  have HC := hide (mn_scan _ _ g ms HM.out t ht key to)
  have hsz1 : (w.alloc (.cells #[.int .u8 3, .int .i64 t, .string key, .string to, .string val] 40)).heap.size = w.heap.size + 1 := World.size_alloc _ _
  have hsz2 : ((w.alloc (.cells #[.int .u8 3, .int .i64 t, .string key, .string to, .string val] 40)).alloc (.cells #[.int .i64 0, .int .i64 0, .string ⟨#[]⟩, .bool false, .slice none 0 0, .slice none 0 0, .int .u64 0] 47)).heap.size = w.heap.size + 1 + 1 := by rw [World.size_alloc, hsz1]
  have HSV : Hid ((((w.alloc (.cells #[.int .u8 3, .int .i64 t, .string key, .string to, .string val] 40)).alloc (.cells #[.int .i64 0, .int .i64 0, .string ⟨#[]⟩, .bool false, .slice none 0 0, .slice none 0 0, .int .u64 0] 47)).alloc (.cells #[.int .i64 0, .int .i64 0, .string ⟨#[]⟩, .bool false, .slice none 0 0, .slice none 0 0, .int .u64 0] 47)).heap.size = w.heap.size + 1 + 1 + 1) := hide (by rw [World.size_alloc, hsz2])
  have HV4 : Hid ((((w.alloc (.cells #[.int .u8 3, .int .i64 t, .string key, .string to, .string val] 40)).alloc (.cells #[.int .i64 0, .int .i64 0, .string ⟨#[]⟩, .bool false, .slice none 0 0, .slice none 0 0, .int .u64 0] 47)).alloc (.cells #[.int .i64 0, .int .i64 0, .string ⟨#[]⟩, .bool false, .slice none 0 0, .slice none 0 0, .int .u64 0] 47)).heap[w.heap.size + 1]? = some (.cells #[.int .i64 0, .int .i64 0, .string ⟨#[]⟩, .bool false, .slice none 0 0, .slice none 0 0, .int .u64 0] 47 (0, 0))) := hide ((Below.heap_alloc _ _ _ (by rw [hsz2]; omega)).trans (by have := heap_alloc_new (w.alloc (.cells #[.int .u8 3, .int .i64 t, .string key, .string to, .string val] 40)) (.cells #[.int .i64 0, .int .i64 0, .string ⟨#[]⟩, .bool false, .slice none 0 0, .slice none 0 0, .int .u64 0] 47); rw [hsz1] at this; exact this))
  have HV5 : Hid ((((w.alloc (.cells #[.int .u8 3, .int .i64 t, .string key, .string to, .string val] 40)).alloc (.cells #[.int .i64 0, .int .i64 0, .string ⟨#[]⟩, .bool false, .slice none 0 0, .slice none 0 0, .int .u64 0] 47)).alloc (.cells #[.int .i64 0, .int .i64 0, .string ⟨#[]⟩, .bool false, .slice none 0 0, .slice none 0 0, .int .u64 0] 47)).heap[w.heap.size + 1 + 1]? = some (.cells #[.int .i64 0, .int .i64 0, .string ⟨#[]⟩, .bool false, .slice none 0 0, .slice none 0 0, .int .u64 0] 47 (0, 0))) := hide (by have := heap_alloc_new ((w.alloc (.cells #[.int .u8 3, .int .i64 t, .string key, .string to, .string val] 40)).alloc (.cells #[.int .i64 0, .int .i64 0, .string ⟨#[]⟩, .bool false, .slice none 0 0, .slice none 0 0, .int .u64 0] 47)) (.cells #[.int .i64 0, .int .i64 0, .string ⟨#[]⟩, .bool false, .slice none 0 0, .slice none 0 0, .int .u64 0] 47); rw [hsz2] at this; exact this)
  clear h ht hsz1 hsz2
  go_enter Tryz.func19, Tryz.ntmps19
  go_wp2_with fail
  refine HC.out.mono ?_
  rintro e w1 ⟨v7, l8, rfl, hr8, hsl, hM, hF⟩
  have HSL := hide hsl
  obtain ⟨a8, c8, rfl⟩ := own_form hr8
  have HR8 := hide hr8
  clear hr8 hsl
  have HM1 := hide hM
  have HF1 := hide hF
  have HW4 : Hid (w1.heap[w.heap.size + 1]? = some (.cells #[.int .i64 0, .int .i64 0, .string ⟨#[]⟩, .bool false, .slice none 0 0, .slice none 0 0, .int .u64 0] 47 (0, 0))) := hide ((hF.block _ (heap_lt HV4.out) (fun hn => hn (.inr ⟨by omega, by have := HSV.out; omega⟩))).trans HV4.out)
  have HW5 : Hid (w1.heap[w.heap.size + 1 + 1]? = some (.cells #[.int .i64 0, .int .i64 0, .string ⟨#[]⟩, .bool false, .slice none 0 0, .slice none 0 0, .int .u64 0] 47 (0, 0))) := hide ((hF.block _ (heap_lt HV5.out) (fun hn => hn (.inr ⟨by omega, by have := HSV.out; omega⟩))).trans HV5.out)
  clear hM hF HC
  have HX : Hid (∀ i, (w.heap.size ≤ i ∧ i < (((w.alloc (.cells #[.int .u8 3, .int .i64 t, .string key, .string to, .string val] 40)).alloc (.cells #[.int .i64 0, .int .i64 0, .string ⟨#[]⟩, .bool false, .slice none 0 0, .slice none 0 0, .int .u64 0] 47)).alloc (.cells #[.int .i64 0, .int .i64 0, .string ⟨#[]⟩, .bool false, .slice none 0 0, .slice none 0 0, .int .u64 0] 47)).heap.size) → ((X i ∨ (w.heap.size ≤ i ∧ i < (((w.alloc (.cells #[.int .u8 3, .int .i64 t, .string key, .string to, .string val] 40)).alloc (.cells #[.int .i64 0, .int .i64 0, .string ⟨#[]⟩, .bool false, .slice none 0 0, .slice none 0 0, .int .u64 0] 47)).alloc (.cells #[.int .i64 0, .int .i64 0, .string ⟨#[]⟩, .bool false, .slice none 0 0, .slice none 0 0, .int .u64 0] 47)).heap.size)) ∨ (Value.slice a8 l8.length c8).ownBlock = some i)) := hide (fun i hi => .inl (.inr hi))
  have HX0 : Hid (∀ i, (X i ∨ (Value.slice a8 l8.length c8).ownBlock = some i) → ((X i ∨ (w.heap.size ≤ i ∧ i < (((w.alloc (.cells #[.int .u8 3, .int .i64 t, .string key, .string to, .string val] 40)).alloc (.cells #[.int .i64 0, .int .i64 0, .string ⟨#[]⟩, .bool false, .slice none 0 0, .slice none 0 0, .int .u64 0] 47)).alloc (.cells #[.int .i64 0, .int .i64 0, .string ⟨#[]⟩, .bool false, .slice none 0 0, .slice none 0 0, .int .u64 0] 47)).heap.size)) ∨ (Value.slice a8 l8.length c8).ownBlock = some i)) := hide (fun i hi => hi.elim (fun h => .inl (.inl h)) (fun h => .inr h))
  have a0 : w1.cell? ⟨w.heap.size + 1 + 1, 0, none⟩ = some (.int .i64 0) := cell_blk HW5.out rfl
  have b0 : w1.cell? ⟨w.heap.size + 1, 0, none⟩ = some (.int .i64 0) := cell_blk HW4.out rfl
  have g0 : w1.frozen? ⟨w.heap.size + 1, 0, none⟩ = false := frz HW4.out 0
  have a1 : w1.cell? ⟨w.heap.size + 1 + 1, 1, none⟩ = some (.int .i64 0) := cell_blk HW5.out rfl
  have b1 : w1.cell? ⟨w.heap.size + 1, 1, none⟩ = some (.int .i64 0) := cell_blk HW4.out rfl
  have g1 : w1.frozen? ⟨w.heap.size + 1, 1, none⟩ = false := frz HW4.out 1
  have a2 : w1.cell? ⟨w.heap.size + 1 + 1, 2, none⟩ = some (.string ⟨#[]⟩) := cell_blk HW5.out rfl
  have b2 : w1.cell? ⟨w.heap.size + 1, 2, none⟩ = some (.string ⟨#[]⟩) := cell_blk HW4.out rfl
  have g2 : w1.frozen? ⟨w.heap.size + 1, 2, none⟩ = false := frz HW4.out 2
  have a3 : w1.cell? ⟨w.heap.size + 1 + 1, 3, none⟩ = some (.bool false) := cell_blk HW5.out rfl
  have b3 : w1.cell? ⟨w.heap.size + 1, 3, none⟩ = some (.bool false) := cell_blk HW4.out rfl
  have g3 : w1.frozen? ⟨w.heap.size + 1, 3, none⟩ = false := frz HW4.out 3
  have a4 : w1.cell? ⟨w.heap.size + 1 + 1, 4, none⟩ = some (.slice none 0 0) := cell_blk HW5.out rfl
  have b4 : w1.cell? ⟨w.heap.size + 1, 4, none⟩ = some (.slice none 0 0) := cell_blk HW4.out rfl
  have g4 : w1.frozen? ⟨w.heap.size + 1, 4, none⟩ = false := frz HW4.out 4
  have a5 : w1.cell? ⟨w.heap.size + 1 + 1, 5, none⟩ = some (.slice none 0 0) := cell_blk HW5.out rfl
  have b5 : w1.cell? ⟨w.heap.size + 1, 5, none⟩ = some (.slice none 0 0) := cell_blk HW4.out rfl
  have g5 : w1.frozen? ⟨w.heap.size + 1, 5, none⟩ = false := frz HW4.out 5
  have a6 : w1.cell? ⟨w.heap.size + 1 + 1, 6, none⟩ = some (.int .u64 0) := cell_blk HW5.out rfl
  have b6 : w1.cell? ⟨w.heap.size + 1, 6, none⟩ = some (.int .u64 0) := cell_blk HW4.out rfl
  have g6 : w1.frozen? ⟨w.heap.size + 1, 6, none⟩ = false := frz HW4.out 6
  have f4 : w1.frozen? ⟨w.heap.size + 1 + 1, 4, none⟩ = false := frz HW5.out 4
  have f0 : w1.frozen? ⟨w.heap.size + 1 + 1, 0, none⟩ = false := frz HW5.out 0
  have HT : Hid ((((((((((w1.setCell ⟨w.heap.size + 1 + 1, 4, none⟩ (.slice a8 l8.length c8)).setCell ⟨w.heap.size + 1 + 1, 0, none⟩ (.int .i64 (mScan ms t key to).2)).setCell ⟨w.heap.size + 1, 0, none⟩ (.int .i64 (mScan ms t key to).2)).setCell ⟨w.heap.size + 1, 1, none⟩ (.int .i64 0)).setCell ⟨w.heap.size + 1, 2, none⟩ (.string ⟨#[]⟩)).setCell ⟨w.heap.size + 1, 3, none⟩ (.bool false)).setCell ⟨w.heap.size + 1, 4, none⟩ (.slice a8 l8.length c8)).setCell ⟨w.heap.size + 1, 5, none⟩ (.slice none 0 0)).setCell ⟨w.heap.size + 1, 6, none⟩ (.int .u64 0)).heap[w.heap.size + 1]? = some (.cells #[.int .i64 (mScan ms t key to).2, .int .i64 0, .string ⟨#[]⟩, .bool false, .slice a8 l8.length c8, .slice none 0 0, .int .u64 0] 47 (0, 0))) := hide (by
    have p0 : ((w1.setCell ⟨w.heap.size + 1 + 1, 4, none⟩ (.slice a8 l8.length c8)).setCell ⟨w.heap.size + 1 + 1, 0, none⟩ (.int .i64 (mScan ms t key to).2)).heap[w.heap.size + 1]? = some (.cells #[.int .i64 0, .int .i64 0, .string ⟨#[]⟩, .bool false, .slice none 0 0, .slice none 0 0, .int .u64 0] 47 (0, 0)) := (Below.heap_setCell _ _ _ _ (by simp)).trans ((Below.heap_setCell _ _ _ _ (by simp)).trans (HW4.out))
    have p1 := blk_set2 (j := 0) p0 (.int .i64 (mScan ms t key to).2)
    have p2 := blk_set2 (j := 1) p1 (.int .i64 0)
    have p3 := blk_set2 (j := 2) p2 (.string ⟨#[]⟩)
    have p4 := blk_set2 (j := 3) p3 (.bool false)
    have p5 := blk_set2 (j := 4) p4 (.slice a8 l8.length c8)
    have p6 := blk_set2 (j := 5) p5 (.slice none 0 0)
    have p7 := blk_set2 (j := 6) p6 (.int .u64 0)
    simpa using p7)
  have HFE : Hid (Frm (fun i => ¬ X i) w (((((((((w1.setCell ⟨w.heap.size + 1 + 1, 4, none⟩ (.slice a8 l8.length c8)).setCell ⟨w.heap.size + 1 + 1, 0, none⟩ (.int .i64 (mScan ms t key to).2)).setCell ⟨w.heap.size + 1, 0, none⟩ (.int .i64 (mScan ms t key to).2)).setCell ⟨w.heap.size + 1, 1, none⟩ (.int .i64 0)).setCell ⟨w.heap.size + 1, 2, none⟩ (.string ⟨#[]⟩)).setCell ⟨w.heap.size + 1, 3, none⟩ (.bool false)).setCell ⟨w.heap.size + 1, 4, none⟩ (.slice a8 l8.length c8)).setCell ⟨w.heap.size + 1, 5, none⟩ (.slice none 0 0)).setCell ⟨w.heap.size + 1, 6, none⟩ (.int .u64 0))∧ Mn (fun i => X i ∨ (Value.slice a8 l8.length c8).ownBlock = some i) (((((((((w1.setCell ⟨w.heap.size + 1 + 1, 4, none⟩ (.slice a8 l8.length c8)).setCell ⟨w.heap.size + 1 + 1, 0, none⟩ (.int .i64 (mScan ms t key to).2)).setCell ⟨w.heap.size + 1, 0, none⟩ (.int .i64 (mScan ms t key to).2)).setCell ⟨w.heap.size + 1, 1, none⟩ (.int .i64 0)).setCell ⟨w.heap.size + 1, 2, none⟩ (.string ⟨#[]⟩)).setCell ⟨w.heap.size + 1, 3, none⟩ (.bool false)).setCell ⟨w.heap.size + 1, 4, none⟩ (.slice a8 l8.length c8)).setCell ⟨w.heap.size + 1, 5, none⟩ (.slice none 0 0)).setCell ⟨w.heap.size + 1, 6, none⟩ (.int .u64 0)) g (mScan ms t key to).1) := hide (by
    have h0 : Frm (fun i => ¬ X i) w w1 := ⟨by rw [HF1.out.os]; exact HB.out.os, by rw [HF1.out.tape]; exact HB.out.tape, by rw [HF1.out.output]; exact HB.out.output, Nat.le_trans HB.out.size HF1.out.size, fun i hi hn => (HF1.out.block i (Nat.lt_of_lt_of_le hi HB.out.size) (fun hq => hq (.inl (Classical.not_not.1 hn)))).trans (HB.out.block i hi)⟩
    have hx5 : w.heap.size ≤ w.heap.size + 1 + 1 ∧ w.heap.size + 1 + 1 < (((w.alloc (.cells #[.int .u8 3, .int .i64 t, .string key, .string to, .string val] 40)).alloc (.cells #[.int .i64 0, .int .i64 0, .string ⟨#[]⟩, .bool false, .slice none 0 0, .slice none 0 0, .int .u64 0] 47)).alloc (.cells #[.int .i64 0, .int .i64 0, .string ⟨#[]⟩, .bool false, .slice none 0 0, .slice none 0 0, .int .u64 0] 47)).heap.size := ⟨by omega, by have := HSV.out; omega⟩
    have hx4 : w.heap.size ≤ w.heap.size + 1 ∧ w.heap.size + 1 < (((w.alloc (.cells #[.int .u8 3, .int .i64 t, .string key, .string to, .string val] 40)).alloc (.cells #[.int .i64 0, .int .i64 0, .string ⟨#[]⟩, .bool false, .slice none 0 0, .slice none 0 0, .int .u64 0] 47)).alloc (.cells #[.int .i64 0, .int .i64 0, .string ⟨#[]⟩, .bool false, .slice none 0 0, .slice none 0 0, .int .u64 0] 47)).heap.size := ⟨by omega, by have := HSV.out; omega⟩
    exact ⟨(Frm.setFar (Frm.setFar (Frm.setFar (Frm.setFar (Frm.setFar (Frm.setFar (Frm.setFar (Frm.setFar (Frm.setFar h0 (by simp; omega) _) (by simp; omega) _) (by simp) _) (by simp) _) (by simp) _) (by simp) _) (by simp) _) (by simp) _) (by simp) _), Mn.mono (Mn.setX (Mn.setX (Mn.setX (Mn.setX (Mn.setX (Mn.setX (Mn.setX (Mn.setX (Mn.setX HM1.out (HX.out _ hx5) _) (HX.out _ hx5) _) (HX.out _ hx4) _) (HX.out _ hx4) _) (HX.out _ hx4) _) (HX.out _ hx4) _) (HX.out _ hx4) _) (HX.out _ hx4) _) (HX.out _ hx4) _) (fun i hi => HX0.out i hi)⟩)
  have HRE : Hid ((((((((((w1.setCell ⟨w.heap.size + 1 + 1, 4, none⟩ (.slice a8 l8.length c8)).setCell ⟨w.heap.size + 1 + 1, 0, none⟩ (.int .i64 (mScan ms t key to).2)).setCell ⟨w.heap.size + 1, 0, none⟩ (.int .i64 (mScan ms t key to).2)).setCell ⟨w.heap.size + 1, 1, none⟩ (.int .i64 0)).setCell ⟨w.heap.size + 1, 2, none⟩ (.string ⟨#[]⟩)).setCell ⟨w.heap.size + 1, 3, none⟩ (.bool false)).setCell ⟨w.heap.size + 1, 4, none⟩ (.slice a8 l8.length c8)).setCell ⟨w.heap.size + 1, 5, none⟩ (.slice none 0 0)).setCell ⟨w.heap.size + 1, 6, none⟩ (.int .u64 0)).ownsRow w.heap.size 62 2 (.slice a8 l8.length c8) l8.length (l8.flatMap prc)) := hide (row_kept (row_mono HR8.out (by have := HSV.out; omega)) (fun j hj => by
    have hq := (HR8.out.lt j hj).1
    have hs := HSV.out
    exact (Below.heap_setCell _ _ _ _ (by simp; omega)).trans ((Below.heap_setCell _ _ _ _ (by simp; omega)).trans ((Below.heap_setCell _ _ _ _ (by simp; omega)).trans ((Below.heap_setCell _ _ _ _ (by simp; omega)).trans ((Below.heap_setCell _ _ _ _ (by simp; omega)).trans ((Below.heap_setCell _ _ _ _ (by simp; omega)).trans ((Below.heap_setCell _ _ _ _ (by simp; omega)).trans ((Below.heap_setCell _ _ _ _ (by simp; omega)).trans ((Below.heap_setCell _ _ _ _ (by simp; omega)).trans (rfl)))))))))))
  clear HM1 HF1 HV4 HV5 HW4 HW5 HM HB HSV
  go_wp2
  refine bodyPost_ret (results_cell_row (P := Tryz.prog) (p := 4) (ty := 47) rfl _ _ _ 47 _ (0, 0) _ rfl HT.out Tryz.underlying47 rfl (by kernel_rfl)) rfl ?_
  exact ⟨_, l8, rfl, HRE.out, HSL.out, HFE.out.2, HFE.out.1⟩
set_option maxHeartbeats 4000000 in
theorem do_commitE (X : Nat → Prop) (w : World) (g : Nat) (ms : Mg) (h : Mn X w g ms) (t : Int) (ht : -9223372036854775808 ≤ t ∧ t ≤ 9223372036854775807) (key to val : ByteArray) (hnow : ms.now + 1 < 18446744073709551616) :
    Calls Tryz.prog 19 #[.pointer (some ⟨g, 0, none⟩), .agg #[.int .u8 6, .int .i64 t, .string key, .string to, .string val]] w fun e w' => ∃ (pv : Value), e = .returned (.agg #[.int .i64 (mCommit ms t).2.2.2, .int .i64 0, .string ⟨#[]⟩, .bool false, .slice none 0 0, pv, .int .u64 ((mCommit ms t).2.2.1 : Nat)]) ∧ w'.ownsRow w.heap.size 64 3 pv (mCommit ms t).2.1.length ((mCommit ms t).2.1.flatMap wtc) ∧ Mn (fun j => X j ∨ pv.ownBlock = some j) w' g (mCommit ms t).1 ∧ Frm (fun i => ¬ X i) w w' := by
  have HB : Hid (Below w.heap.size w (((w.alloc (.cells #[.int .u8 6, .int .i64 t, .string key, .string to, .string val] 40)).alloc (.cells #[.int .i64 0, .int .i64 0, .string ⟨#[]⟩, .bool false, .slice none 0 0, .slice none 0 0, .int .u64 0] 47)).alloc (.cells #[.int .i64 0, .int .i64 0, .string ⟨#[]⟩, .bool false, .slice none 0 0, .slice none 0 0, .int .u64 0] 47))) := hide ((((Below.refl _ w).alloc (Nat.le_refl _) _).alloc (by simp) _).alloc (by simp; omega) _)
  have HM := hide (h.news HB.out)
  have HC := hide (mn_commit _ _ g ms HM.out t ht hnow)
  have hsz1 : (w.alloc (.cells #[.int .u8 6, .int .i64 t, .string key, .string to, .string val] 40)).heap.size = w.heap.size + 1 := World.size_alloc _ _
  have hsz2 : ((w.alloc (.cells #[.int .u8 6, .int .i64 t, .string key, .string to, .string val] 40)).alloc (.cells #[.int .i64 0, .int .i64 0, .string ⟨#[]⟩, .bool false, .slice none 0 0, .slice none 0 0, .int .u64 0] 47)).heap.size = w.heap.size + 1 + 1 := by rw [World.size_alloc, hsz1]
  have HSV : Hid ((((w.alloc (.cells #[.int .u8 6, .int .i64 t, .string key, .string to, .string val] 40)).alloc (.cells #[.int .i64 0, .int .i64 0, .string ⟨#[]⟩, .bool false, .slice none 0 0, .slice none 0 0, .int .u64 0] 47)).alloc (.cells #[.int .i64 0, .int .i64 0, .string ⟨#[]⟩, .bool false, .slice none 0 0, .slice none 0 0, .int .u64 0] 47)).heap.size = w.heap.size + 1 + 1 + 1) := hide (by rw [World.size_alloc, hsz2])
  have HV4 : Hid ((((w.alloc (.cells #[.int .u8 6, .int .i64 t, .string key, .string to, .string val] 40)).alloc (.cells #[.int .i64 0, .int .i64 0, .string ⟨#[]⟩, .bool false, .slice none 0 0, .slice none 0 0, .int .u64 0] 47)).alloc (.cells #[.int .i64 0, .int .i64 0, .string ⟨#[]⟩, .bool false, .slice none 0 0, .slice none 0 0, .int .u64 0] 47)).heap[w.heap.size + 1]? = some (.cells #[.int .i64 0, .int .i64 0, .string ⟨#[]⟩, .bool false, .slice none 0 0, .slice none 0 0, .int .u64 0] 47 (0, 0))) := hide ((Below.heap_alloc _ _ _ (by rw [hsz2]; omega)).trans (by have := heap_alloc_new (w.alloc (.cells #[.int .u8 6, .int .i64 t, .string key, .string to, .string val] 40)) (.cells #[.int .i64 0, .int .i64 0, .string ⟨#[]⟩, .bool false, .slice none 0 0, .slice none 0 0, .int .u64 0] 47); rw [hsz1] at this; exact this))
  have HV5 : Hid ((((w.alloc (.cells #[.int .u8 6, .int .i64 t, .string key, .string to, .string val] 40)).alloc (.cells #[.int .i64 0, .int .i64 0, .string ⟨#[]⟩, .bool false, .slice none 0 0, .slice none 0 0, .int .u64 0] 47)).alloc (.cells #[.int .i64 0, .int .i64 0, .string ⟨#[]⟩, .bool false, .slice none 0 0, .slice none 0 0, .int .u64 0] 47)).heap[w.heap.size + 1 + 1]? = some (.cells #[.int .i64 0, .int .i64 0, .string ⟨#[]⟩, .bool false, .slice none 0 0, .slice none 0 0, .int .u64 0] 47 (0, 0))) := hide (by have := heap_alloc_new ((w.alloc (.cells #[.int .u8 6, .int .i64 t, .string key, .string to, .string val] 40)).alloc (.cells #[.int .i64 0, .int .i64 0, .string ⟨#[]⟩, .bool false, .slice none 0 0, .slice none 0 0, .int .u64 0] 47)) (.cells #[.int .i64 0, .int .i64 0, .string ⟨#[]⟩, .bool false, .slice none 0 0, .slice none 0 0, .int .u64 0] 47); rw [hsz2] at this; exact this)
  clear h ht hsz1 hsz2
  go_enter Tryz.func19, Tryz.ntmps19
  go_wp2_with fail
  refine HC.out.mono ?_
  rintro e w1 ⟨v7, rfl, hr8, hM, hF⟩
  obtain ⟨a8, c8, rfl⟩ := own_form hr8
  have HR8 := hide hr8
  clear hr8
  have HM1 := hide hM
  have HF1 := hide hF
  have HW4 : Hid (w1.heap[w.heap.size + 1]? = some (.cells #[.int .i64 0, .int .i64 0, .string ⟨#[]⟩, .bool false, .slice none 0 0, .slice none 0 0, .int .u64 0] 47 (0, 0))) := hide ((hF.block _ (heap_lt HV4.out) (fun hn => hn (.inr ⟨by omega, by have := HSV.out; omega⟩))).trans HV4.out)
  have HW5 : Hid (w1.heap[w.heap.size + 1 + 1]? = some (.cells #[.int .i64 0, .int .i64 0, .string ⟨#[]⟩, .bool false, .slice none 0 0, .slice none 0 0, .int .u64 0] 47 (0, 0))) := hide ((hF.block _ (heap_lt HV5.out) (fun hn => hn (.inr ⟨by omega, by have := HSV.out; omega⟩))).trans HV5.out)
  clear hM hF HC
  have HX : Hid (∀ i, (w.heap.size ≤ i ∧ i < (((w.alloc (.cells #[.int .u8 6, .int .i64 t, .string key, .string to, .string val] 40)).alloc (.cells #[.int .i64 0, .int .i64 0, .string ⟨#[]⟩, .bool false, .slice none 0 0, .slice none 0 0, .int .u64 0] 47)).alloc (.cells #[.int .i64 0, .int .i64 0, .string ⟨#[]⟩, .bool false, .slice none 0 0, .slice none 0 0, .int .u64 0] 47)).heap.size) → ((X i ∨ (w.heap.size ≤ i ∧ i < (((w.alloc (.cells #[.int .u8 6, .int .i64 t, .string key, .string to, .string val] 40)).alloc (.cells #[.int .i64 0, .int .i64 0, .string ⟨#[]⟩, .bool false, .slice none 0 0, .slice none 0 0, .int .u64 0] 47)).alloc (.cells #[.int .i64 0, .int .i64 0, .string ⟨#[]⟩, .bool false, .slice none 0 0, .slice none 0 0, .int .u64 0] 47)).heap.size)) ∨ (Value.slice a8 (mCommit ms t).2.1.length c8).ownBlock = some i)) := hide (fun i hi => .inl (.inr hi))
  have HX0 : Hid (∀ i, (X i ∨ (Value.slice a8 (mCommit ms t).2.1.length c8).ownBlock = some i) → ((X i ∨ (w.heap.size ≤ i ∧ i < (((w.alloc (.cells #[.int .u8 6, .int .i64 t, .string key, .string to, .string val] 40)).alloc (.cells #[.int .i64 0, .int .i64 0, .string ⟨#[]⟩, .bool false, .slice none 0 0, .slice none 0 0, .int .u64 0] 47)).alloc (.cells #[.int .i64 0, .int .i64 0, .string ⟨#[]⟩, .bool false, .slice none 0 0, .slice none 0 0, .int .u64 0] 47)).heap.size)) ∨ (Value.slice a8 (mCommit ms t).2.1.length c8).ownBlock = some i)) := hide (fun i hi => hi.elim (fun h => .inl (.inl h)) (fun h => .inr h))
  have a0 : w1.cell? ⟨w.heap.size + 1 + 1, 0, none⟩ = some (.int .i64 0) := cell_blk HW5.out rfl
  have b0 : w1.cell? ⟨w.heap.size + 1, 0, none⟩ = some (.int .i64 0) := cell_blk HW4.out rfl
  have g0 : w1.frozen? ⟨w.heap.size + 1, 0, none⟩ = false := frz HW4.out 0
  have a1 : w1.cell? ⟨w.heap.size + 1 + 1, 1, none⟩ = some (.int .i64 0) := cell_blk HW5.out rfl
  have b1 : w1.cell? ⟨w.heap.size + 1, 1, none⟩ = some (.int .i64 0) := cell_blk HW4.out rfl
  have g1 : w1.frozen? ⟨w.heap.size + 1, 1, none⟩ = false := frz HW4.out 1
  have a2 : w1.cell? ⟨w.heap.size + 1 + 1, 2, none⟩ = some (.string ⟨#[]⟩) := cell_blk HW5.out rfl
  have b2 : w1.cell? ⟨w.heap.size + 1, 2, none⟩ = some (.string ⟨#[]⟩) := cell_blk HW4.out rfl
  have g2 : w1.frozen? ⟨w.heap.size + 1, 2, none⟩ = false := frz HW4.out 2
  have a3 : w1.cell? ⟨w.heap.size + 1 + 1, 3, none⟩ = some (.bool false) := cell_blk HW5.out rfl
  have b3 : w1.cell? ⟨w.heap.size + 1, 3, none⟩ = some (.bool false) := cell_blk HW4.out rfl
  have g3 : w1.frozen? ⟨w.heap.size + 1, 3, none⟩ = false := frz HW4.out 3
  have a4 : w1.cell? ⟨w.heap.size + 1 + 1, 4, none⟩ = some (.slice none 0 0) := cell_blk HW5.out rfl
  have b4 : w1.cell? ⟨w.heap.size + 1, 4, none⟩ = some (.slice none 0 0) := cell_blk HW4.out rfl
  have g4 : w1.frozen? ⟨w.heap.size + 1, 4, none⟩ = false := frz HW4.out 4
  have a5 : w1.cell? ⟨w.heap.size + 1 + 1, 5, none⟩ = some (.slice none 0 0) := cell_blk HW5.out rfl
  have b5 : w1.cell? ⟨w.heap.size + 1, 5, none⟩ = some (.slice none 0 0) := cell_blk HW4.out rfl
  have g5 : w1.frozen? ⟨w.heap.size + 1, 5, none⟩ = false := frz HW4.out 5
  have a6 : w1.cell? ⟨w.heap.size + 1 + 1, 6, none⟩ = some (.int .u64 0) := cell_blk HW5.out rfl
  have b6 : w1.cell? ⟨w.heap.size + 1, 6, none⟩ = some (.int .u64 0) := cell_blk HW4.out rfl
  have g6 : w1.frozen? ⟨w.heap.size + 1, 6, none⟩ = false := frz HW4.out 6
  have f5 : w1.frozen? ⟨w.heap.size + 1 + 1, 5, none⟩ = false := frz HW5.out 5
  have f6 : w1.frozen? ⟨w.heap.size + 1 + 1, 6, none⟩ = false := frz HW5.out 6
  have f0 : w1.frozen? ⟨w.heap.size + 1 + 1, 0, none⟩ = false := frz HW5.out 0
  have HT : Hid (((((((((((w1.setCell ⟨w.heap.size + 1 + 1, 5, none⟩ (.slice a8 (mCommit ms t).2.1.length c8)).setCell ⟨w.heap.size + 1 + 1, 6, none⟩ (.int .u64 ((mCommit ms t).2.2.1 : Nat))).setCell ⟨w.heap.size + 1 + 1, 0, none⟩ (.int .i64 (mCommit ms t).2.2.2)).setCell ⟨w.heap.size + 1, 0, none⟩ (.int .i64 (mCommit ms t).2.2.2)).setCell ⟨w.heap.size + 1, 1, none⟩ (.int .i64 0)).setCell ⟨w.heap.size + 1, 2, none⟩ (.string ⟨#[]⟩)).setCell ⟨w.heap.size + 1, 3, none⟩ (.bool false)).setCell ⟨w.heap.size + 1, 4, none⟩ (.slice none 0 0)).setCell ⟨w.heap.size + 1, 5, none⟩ (.slice a8 (mCommit ms t).2.1.length c8)).setCell ⟨w.heap.size + 1, 6, none⟩ (.int .u64 ((mCommit ms t).2.2.1 : Nat))).heap[w.heap.size + 1]? = some (.cells #[.int .i64 (mCommit ms t).2.2.2, .int .i64 0, .string ⟨#[]⟩, .bool false, .slice none 0 0, .slice a8 (mCommit ms t).2.1.length c8, .int .u64 ((mCommit ms t).2.2.1 : Nat)] 47 (0, 0))) := hide (by
    have p0 : (((w1.setCell ⟨w.heap.size + 1 + 1, 5, none⟩ (.slice a8 (mCommit ms t).2.1.length c8)).setCell ⟨w.heap.size + 1 + 1, 6, none⟩ (.int .u64 ((mCommit ms t).2.2.1 : Nat))).setCell ⟨w.heap.size + 1 + 1, 0, none⟩ (.int .i64 (mCommit ms t).2.2.2)).heap[w.heap.size + 1]? = some (.cells #[.int .i64 0, .int .i64 0, .string ⟨#[]⟩, .bool false, .slice none 0 0, .slice none 0 0, .int .u64 0] 47 (0, 0)) := (Below.heap_setCell _ _ _ _ (by simp)).trans ((Below.heap_setCell _ _ _ _ (by simp)).trans ((Below.heap_setCell _ _ _ _ (by simp)).trans (HW4.out)))
    have p1 := blk_set2 (j := 0) p0 (.int .i64 (mCommit ms t).2.2.2)
    have p2 := blk_set2 (j := 1) p1 (.int .i64 0)
    have p3 := blk_set2 (j := 2) p2 (.string ⟨#[]⟩)
    have p4 := blk_set2 (j := 3) p3 (.bool false)
    have p5 := blk_set2 (j := 4) p4 (.slice none 0 0)
    have p6 := blk_set2 (j := 5) p5 (.slice a8 (mCommit ms t).2.1.length c8)
    have p7 := blk_set2 (j := 6) p6 (.int .u64 ((mCommit ms t).2.2.1 : Nat))
    simpa using p7)
  have HFE : Hid (Frm (fun i => ¬ X i) w ((((((((((w1.setCell ⟨w.heap.size + 1 + 1, 5, none⟩ (.slice a8 (mCommit ms t).2.1.length c8)).setCell ⟨w.heap.size + 1 + 1, 6, none⟩ (.int .u64 ((mCommit ms t).2.2.1 : Nat))).setCell ⟨w.heap.size + 1 + 1, 0, none⟩ (.int .i64 (mCommit ms t).2.2.2)).setCell ⟨w.heap.size + 1, 0, none⟩ (.int .i64 (mCommit ms t).2.2.2)).setCell ⟨w.heap.size + 1, 1, none⟩ (.int .i64 0)).setCell ⟨w.heap.size + 1, 2, none⟩ (.string ⟨#[]⟩)).setCell ⟨w.heap.size + 1, 3, none⟩ (.bool false)).setCell ⟨w.heap.size + 1, 4, none⟩ (.slice none 0 0)).setCell ⟨w.heap.size + 1, 5, none⟩ (.slice a8 (mCommit ms t).2.1.length c8)).setCell ⟨w.heap.size + 1, 6, none⟩ (.int .u64 ((mCommit ms t).2.2.1 : Nat)))∧ Mn (fun i => X i ∨ (Value.slice a8 (mCommit ms t).2.1.length c8).ownBlock = some i) ((((((((((w1.setCell ⟨w.heap.size + 1 + 1, 5, none⟩ (.slice a8 (mCommit ms t).2.1.length c8)).setCell ⟨w.heap.size + 1 + 1, 6, none⟩ (.int .u64 ((mCommit ms t).2.2.1 : Nat))).setCell ⟨w.heap.size + 1 + 1, 0, none⟩ (.int .i64 (mCommit ms t).2.2.2)).setCell ⟨w.heap.size + 1, 0, none⟩ (.int .i64 (mCommit ms t).2.2.2)).setCell ⟨w.heap.size + 1, 1, none⟩ (.int .i64 0)).setCell ⟨w.heap.size + 1, 2, none⟩ (.string ⟨#[]⟩)).setCell ⟨w.heap.size + 1, 3, none⟩ (.bool false)).setCell ⟨w.heap.size + 1, 4, none⟩ (.slice none 0 0)).setCell ⟨w.heap.size + 1, 5, none⟩ (.slice a8 (mCommit ms t).2.1.length c8)).setCell ⟨w.heap.size + 1, 6, none⟩ (.int .u64 ((mCommit ms t).2.2.1 : Nat))) g (mCommit ms t).1) := hide (by
    have h0 : Frm (fun i => ¬ X i) w w1 := ⟨by rw [HF1.out.os]; exact HB.out.os, by rw [HF1.out.tape]; exact HB.out.tape, by rw [HF1.out.output]; exact HB.out.output, Nat.le_trans HB.out.size HF1.out.size, fun i hi hn => (HF1.out.block i (Nat.lt_of_lt_of_le hi HB.out.size) (fun hq => hq (.inl (Classical.not_not.1 hn)))).trans (HB.out.block i hi)⟩
    have hx5 : w.heap.size ≤ w.heap.size + 1 + 1 ∧ w.heap.size + 1 + 1 < (((w.alloc (.cells #[.int .u8 6, .int .i64 t, .string key, .string to, .string val] 40)).alloc (.cells #[.int .i64 0, .int .i64 0, .string ⟨#[]⟩, .bool false, .slice none 0 0, .slice none 0 0, .int .u64 0] 47)).alloc (.cells #[.int .i64 0, .int .i64 0, .string ⟨#[]⟩, .bool false, .slice none 0 0, .slice none 0 0, .int .u64 0] 47)).heap.size := ⟨by omega, by have := HSV.out; omega⟩
    have hx4 : w.heap.size ≤ w.heap.size + 1 ∧ w.heap.size + 1 < (((w.alloc (.cells #[.int .u8 6, .int .i64 t, .string key, .string to, .string val] 40)).alloc (.cells #[.int .i64 0, .int .i64 0, .string ⟨#[]⟩, .bool false, .slice none 0 0, .slice none 0 0, .int .u64 0] 47)).alloc (.cells #[.int .i64 0, .int .i64 0, .string ⟨#[]⟩, .bool false, .slice none 0 0, .slice none 0 0, .int .u64 0] 47)).heap.size := ⟨by omega, by have := HSV.out; omega⟩
    exact ⟨(Frm.setFar (Frm.setFar (Frm.setFar (Frm.setFar (Frm.setFar (Frm.setFar (Frm.setFar (Frm.setFar (Frm.setFar (Frm.setFar h0 (by simp; omega) _) (by simp; omega) _) (by simp; omega) _) (by simp) _) (by simp) _) (by simp) _) (by simp) _) (by simp) _) (by simp) _) (by simp) _), Mn.mono (Mn.setX (Mn.setX (Mn.setX (Mn.setX (Mn.setX (Mn.setX (Mn.setX (Mn.setX (Mn.setX (Mn.setX HM1.out (HX.out _ hx5) _) (HX.out _ hx5) _) (HX.out _ hx5) _) (HX.out _ hx4) _) (HX.out _ hx4) _) (HX.out _ hx4) _) (HX.out _ hx4) _) (HX.out _ hx4) _) (HX.out _ hx4) _) (HX.out _ hx4) _) (fun i hi => HX0.out i hi)⟩)
  have HRE : Hid (((((((((((w1.setCell ⟨w.heap.size + 1 + 1, 5, none⟩ (.slice a8 (mCommit ms t).2.1.length c8)).setCell ⟨w.heap.size + 1 + 1, 6, none⟩ (.int .u64 ((mCommit ms t).2.2.1 : Nat))).setCell ⟨w.heap.size + 1 + 1, 0, none⟩ (.int .i64 (mCommit ms t).2.2.2)).setCell ⟨w.heap.size + 1, 0, none⟩ (.int .i64 (mCommit ms t).2.2.2)).setCell ⟨w.heap.size + 1, 1, none⟩ (.int .i64 0)).setCell ⟨w.heap.size + 1, 2, none⟩ (.string ⟨#[]⟩)).setCell ⟨w.heap.size + 1, 3, none⟩ (.bool false)).setCell ⟨w.heap.size + 1, 4, none⟩ (.slice none 0 0)).setCell ⟨w.heap.size + 1, 5, none⟩ (.slice a8 (mCommit ms t).2.1.length c8)).setCell ⟨w.heap.size + 1, 6, none⟩ (.int .u64 ((mCommit ms t).2.2.1 : Nat))).ownsRow w.heap.size 64 3 (.slice a8 (mCommit ms t).2.1.length c8) (mCommit ms t).2.1.length ((mCommit ms t).2.1.flatMap wtc)) := hide (row_kept (row_mono HR8.out (by have := HSV.out; omega)) (fun j hj => by
    have hq := (HR8.out.lt j hj).1
    have hs := HSV.out
    exact (Below.heap_setCell _ _ _ _ (by simp; omega)).trans ((Below.heap_setCell _ _ _ _ (by simp; omega)).trans ((Below.heap_setCell _ _ _ _ (by simp; omega)).trans ((Below.heap_setCell _ _ _ _ (by simp; omega)).trans ((Below.heap_setCell _ _ _ _ (by simp; omega)).trans ((Below.heap_setCell _ _ _ _ (by simp; omega)).trans ((Below.heap_setCell _ _ _ _ (by simp; omega)).trans ((Below.heap_setCell _ _ _ _ (by simp; omega)).trans ((Below.heap_setCell _ _ _ _ (by simp; omega)).trans ((Below.heap_setCell _ _ _ _ (by simp; omega)).trans (rfl))))))))))))
  clear HM1 HF1 HV4 HV5 HW4 HW5 HM HB HSV
  go_wp2
  refine bodyPost_ret (results_cell_row (P := Tryz.prog) (p := 4) (ty := 47) rfl _ _ _ 47 _ (0, 0) _ rfl HT.out Tryz.underlying47 rfl (by kernel_rfl)) rfl ?_
  exact ⟨_, rfl, HRE.out, HFE.out.2, HFE.out.1⟩
end Go.Proofs.YtlkmcbelmldleaaGreat
/- Peek -/
namespace Go.Proofs.YtlkmcbelmldleaaGreat
open Go.RowKit
open Go.Maps (Keyed has size)
set_option maxRecDepth 40000
set_option linter.unusedVariables false
/-- what Peek says -/
def mPeek (ms : Mg) (t : Int) : List Wt × Bool × Int := match ms.at t with
  | none => ([], false, 11)
  | some (_, _, tr) => (tr.ws, conflB ms.vs tr, 0)
end Go.Proofs.YtlkmcbelmldleaaGreat
/- what a scan answers is one list -/
namespace Go.Proofs.YtlkmcbelmldleaaGreat
open Go.RowKit
set_option maxRecDepth 40000
/-- keys that differ -/
def Dif (l : List Pr) : Prop := l.Pairwise (fun p q => ¬ p.key.toList = q.key.toList)
theorem scan_dif (fr to : ByteArray) (t : Nat) : ∀ (f s : Nat) (l : List Vr), l.length ≤ f → Srt l → (∀ p ∈ scanG t ((gpsOf s l).filter (fun g => inSpan fr to (hd g).key)), ∃ y ∈ l, p.key = y.key) ∧ Dif (scanG t ((gpsOf s l).filter (fun g => inSpan fr to (hd g).key))) := by
  intro f
  induction f with
  | zero =>
    intro s l h _
    rw [List.eq_nil_of_length_eq_zero (Nat.le_zero.1 h)]
    exact ⟨fun p hp => (by cases hp), List.Pairwise.nil⟩
  | succ f ih =>
    intro s l h hs
    cases l with
    | nil => exact ⟨fun p hp => (by cases hp), List.Pairwise.nil⟩
    | cons x r =>
      rw [gpsOf_cons]
      obtain ⟨w1, w2⟩ := srt_while hs
      have hsp := List.takeWhile_append_dropWhile (p := sameK x.key) (l := r)
      have hd' : ∀ y ∈ r.dropWhile (sameK x.key), ¬ y.key.toList = x.key.toList := fun y hy e => by
        rw [w2] at hy
        have := (List.mem_filter.1 hy).2
        rw [sameK_iff.2 e] at this; cases this
      generalize r.takeWhile (sameK x.key) = tw at *
      generalize r.dropWhile (sameK x.key) = dw at *
      clear w1 w2
      subst hsp
      have hs' := hs
      unfold Srt at hs'
      rw [← List.cons_append, List.pairwise_append] at hs'
      obtain ⟨_, p2, _⟩ := hs'
      obtain ⟨i1, i2⟩ := ih (s + 1 + tw.length) dw (by simp at h; omega) p2
      have up : ∀ p ∈ scanG t ((gpsOf (s + 1 + tw.length) dw).filter (fun g => inSpan fr to (hd g).key)), ∃ y ∈ x :: (tw ++ dw), p.key = y.key := fun p hp => by
        obtain ⟨y, hy, e⟩ := i1 p hp
        exact ⟨y, by simp [hy], e⟩
      have hhd : hd (s, x :: tw) = x := rfl
      by_cases h2 : inSpan fr to x.key = true
      · rw [List.filter_cons_of_pos (by rw [hhd]; exact h2)]
        by_cases h1 : (seenR (lastTo (x :: tw) t)).2 = true
        · have e : scanG t ((s, x :: tw) :: (gpsOf (s + 1 + tw.length) dw).filter (fun g => inSpan fr to (hd g).key)) = ⟨x.key, (seenR (lastTo (x :: tw) t)).1⟩ :: scanG t ((gpsOf (s + 1 + tw.length) dw).filter (fun g => inSpan fr to (hd g).key)) := by
            unfold scanG
            rw [List.filterMap_cons]
            dsimp only
            rw [hhd, if_pos h1]
          rw [e]
          refine ⟨fun p hp => ?_, List.pairwise_cons.2 ⟨fun p hp hk => ?_, i2⟩⟩
          · rcases List.mem_cons.1 hp with rfl | hp
            · exact ⟨x, by simp, rfl⟩
            · exact up p hp
          · obtain ⟨y, hy, e⟩ := i1 p hp
            exact hd' y hy (by rw [← e]; exact hk.symm)
        · have e : scanG t ((s, x :: tw) :: (gpsOf (s + 1 + tw.length) dw).filter (fun g => inSpan fr to (hd g).key)) = scanG t ((gpsOf (s + 1 + tw.length) dw).filter (fun g => inSpan fr to (hd g).key)) := by
            unfold scanG
            rw [List.filterMap_cons]
            dsimp only
            rw [if_neg h1]
          rw [e]
          exact ⟨up, i2⟩
      · rw [List.filter_cons_of_neg (by rw [hhd]; exact h2)]
        exact ⟨up, i2⟩
theorem scanR_dif (low : Nat) (l : List Vr) (fr to : ByteArray) (t : Nat) : Dif (scanR low l fr to t).1 := by
  unfold scanR
  split
  · rename_i h
    exact (scan_dif fr to t l.length 0 l (Nat.le_refl _) (good_srt (ask_good h))).2
  · exact List.Pairwise.nil
theorem seen_dif {ws : List Wt} (hs : SrtW ws) (bs : List Pr) (hb : Dif bs) (ask : Sp) : Dif (oldP ws bs ++ (ws.filter (seenW ask)).map prOf) := by
  unfold Dif
  rw [List.pairwise_append]
  refine ⟨List.Pairwise.filter _ hb, ?_, ?_⟩
  · rw [List.pairwise_map]
    refine (List.Pairwise.filter _ hs).imp (fun {x y} h e => ?_)
    have e' : x.key.toList = y.key.toList := e
    rw [e', less_irrefl] at h
    cases h
  · intro p hp q hq e
    obtain ⟨x, hx, rfl⟩ := List.mem_map.1 hq
    have h1 := (List.mem_filter.1 hp).2
    have h2 : hasW ws p.key = true := List.any_eq_true.2 ⟨x, (List.mem_filter.1 hx).1, by
      have e' : p.key.toList = x.key.toList := e
      rw [e']; simp⟩
    rw [h2] at h1; cases h1
/-- every open transaction's writes rise -/
def WsOk (ms : Mg) : Prop := ∀ x ∈ ms.opn, SrtW x.2.ws
theorem Mn.srt {X : Nat → Prop} {w : World} {g : Nat} {ms : Mg} (h : Mn X w g ms) : WsOk ms := by
  obtain ⟨ob, ps, h1, _⟩ := h.ex
  intro x hx
  obtain ⟨i, hi⟩ := List.getElem?_of_mem hx
  obtain ⟨l, hl⟩ := Mn.pl h1 hi
  obtain ⟨D, _, hD⟩ := (h1.each i x.1 x.2 l hi hl).map
  exact hD.srt
end Go.Proofs.YtlkmcbelmldleaaGreat
/- two managers beside one another -/
namespace Go.Proofs.YtlkmcbelmldleaaGreat
open Go.RowKit
set_option maxRecDepth 40000
set_option linter.unusedVariables false
/-- the blocks of a manager -/
def OwnM (w : World) (g ob : Nat) (ps : List Pl) (i : Nat) : Prop := SM g ob ps i ∨ VB w g i
/-- two managers that share no block, and have none of a set -/
structure Duo (X : Nat → Prop) (w : World) (g g' : Nat) (ms ms' : Mg) : Prop where
  ex : ∃ ob ps ob' ps', IsM w g ob ps ms ∧ IsM w g' ob' ps' ms' ∧ (∀ i, OwnM w g ob ps i → ¬ OwnM w g' ob' ps' i) ∧ (∀ i, OwnM w g ob ps i → ¬ X i) ∧ ∀ i, OwnM w g' ob' ps' i → ¬ X i
  few : ∀ x ∈ ms.opn, x.2.reads.length ≤ 256 ∧ x.2.ws.length ≤ 256
  few' : ∀ x ∈ ms'.opn, x.2.reads.length ≤ 256 ∧ x.2.ws.length ≤ 256
  xb : ∀ i, X i → i < w.heap.size
theorem Duo.swap {X : Nat → Prop} {w : World} {g g' : Nat} {ms ms' : Mg} (h : Duo X w g g' ms ms') : Duo X w g' g ms' ms := by
  obtain ⟨ob, ps, ob', ps', h1, h2, h3, h4, h5⟩ := h.ex
  exact ⟨⟨ob', ps', ob, ps, h2, h1, fun i hi hj => h3 i hj hi, h5, h4⟩, h.few', h.few, h.xb⟩
theorem Duo.mono {X Y : Nat → Prop} {w : World} {g g' : Nat} {ms ms' : Mg} (h : Duo X w g g' ms ms') (hxy : ∀ i, Y i → X i) : Duo Y w g g' ms ms' := by
  obtain ⟨ob, ps, ob', ps', h1, h2, h3, h4, h5⟩ := h.ex
  exact ⟨⟨ob, ps, ob', ps', h1, h2, h3, fun i hi hy => h4 i hi (hxy i hy), fun i hi hy => h5 i hi (hxy i hy)⟩, h.few, h.few', fun i hi => h.xb i (hxy i hi)⟩
/-- the first, by itself -/
theorem Duo.left {X : Nat → Prop} {w : World} {g g' : Nat} {ms ms' : Mg} (h : Duo X w g g' ms ms') : ∃ Y : Nat → Prop, (∀ i, X i → Y i) ∧ Mn Y w g ms ∧ ∀ (Z : Nat → Prop) (w1 : World) (ms1 : Mg), Mn (fun j => Y j ∨ Z j) w1 g ms1 → Frm (fun i => ¬ Y i) w w1 → (∀ j, Z j → w.heap.size ≤ j) → Duo (fun j => X j ∨ Z j) w1 g g' ms1 ms' := by
  obtain ⟨ob, ps, ob', ps', h1, h2, h3, h4, h5⟩ := h.ex
  have hlt : ∀ i, OwnM w g' ob' ps' i → i < w.heap.size := fun i hi => hi.elim (fun hi => h2.ltS hi) (fun hi => vb_lt h2 hi)
  refine ⟨fun i => X i ∨ OwnM w g' ob' ps' i, fun i hi => .inl hi, ⟨⟨ob, ps, h1, fun i hi hx => hx.elim (h4 i (.inl hi)) (h3 i (.inl hi))⟩, fun b hv hx => hx.elim (h4 b (.inr hv)) (h3 b (.inr hv)), h.few, fun i hi => hi.elim (h.xb i) (hlt i)⟩, ?_⟩
  intro Z w1 ms1 hM hF hZ
  obtain ⟨ob1, ps1, m1, m2⟩ := hM.ex
  have hk : ∀ i, OwnM w g' ob' ps' i → w1.heap[i]? = w.heap[i]? := fun i hi => hF.block i (hlt i hi) (fun hn => hn (.inr hi))
  have h2' : IsM w1 g' ob' ps' ms' := h2.keptX hF.size (fun i hi => hk i (.inl hi)) (fun i hi _ => hk i (.inr hi))
  have hback : ∀ i, OwnM w1 g' ob' ps' i → OwnM w g' ob' ps' i := fun i hi => hi.imp id (fun hv => hv.same (hk g' (.inl (.inl rfl))))
  have hown : ∀ i, OwnM w1 g ob1 ps1 i → ¬ ((X i ∨ OwnM w g' ob' ps' i) ∨ Z i) := fun i hi => hi.elim (m2 i) (hM.ver i)
  refine ⟨⟨ob1, ps1, ob', ps', m1, h2', fun i hi hj => hown i hi (.inl (.inr (hback i hj))), fun i hi hx => hown i hi (hx.elim (fun h => .inl (.inl h)) .inr), fun i hi hx => ?_⟩, hM.few, h.few', fun i hi => hM.xb i (hi.elim (fun h => .inl (.inl h)) .inr)⟩
  have h6 := hback i hi
  rcases hx with hx | hx
  · exact h5 i h6 hx
  · have := hZ i hx
    have := hlt i h6
    omega
theorem Duo.below {X : Nat → Prop} {w w' : World} {g g' : Nat} {ms ms' : Mg} (h : Duo X w g g' ms ms') (hb : Below w.heap.size w w') : Duo X w' g g' ms ms' := by
  obtain ⟨ob, ps, ob', ps', h1, h2, h3, h4, h5⟩ := h.ex
  have o1 : ∀ i, OwnM w' g ob ps i → OwnM w g ob ps i := fun i hi => hi.imp id (fun hv => hv.same (hb.block _ (h1.ltS (.inl rfl))))
  have o2 : ∀ i, OwnM w' g' ob' ps' i → OwnM w g' ob' ps' i := fun i hi => hi.imp id (fun hv => hv.same (hb.block _ (h2.ltS (.inl rfl))))
  exact ⟨⟨ob, ps, ob', ps', h1.below hb, h2.below hb, fun i hi hj => h3 i (o1 i hi) (o2 i hj), fun i hi => h4 i (o1 i hi), fun i hi => h5 i (o2 i hi)⟩, h.few, h.few', fun i hi => Nat.lt_of_lt_of_le (h.xb i hi) hb.size⟩
/-- new blocks are none of theirs -/
theorem Duo.news {X : Nat → Prop} {w w' : World} {g g' : Nat} {ms ms' : Mg} (h : Duo X w g g' ms ms') (hb : Below w.heap.size w w') : Duo (fun i => X i ∨ (w.heap.size ≤ i ∧ i < w'.heap.size)) w' g g' ms ms' := by
  obtain ⟨ob, ps, ob', ps', h1, h2, h3, h4, h5⟩ := h.ex
  have o1 : ∀ i, OwnM w' g ob ps i → OwnM w g ob ps i := fun i hi => hi.imp id (fun hv => hv.same (hb.block _ (h1.ltS (.inl rfl))))
  have o2 : ∀ i, OwnM w' g' ob' ps' i → OwnM w g' ob' ps' i := fun i hi => hi.imp id (fun hv => hv.same (hb.block _ (h2.ltS (.inl rfl))))
  have l1 : ∀ i, OwnM w g ob ps i → i < w.heap.size := fun i hi => hi.elim (fun hi => h1.ltS hi) (fun hi => vb_lt h1 hi)
  have l2 : ∀ i, OwnM w g' ob' ps' i → i < w.heap.size := fun i hi => hi.elim (fun hi => h2.ltS hi) (fun hi => vb_lt h2 hi)
  exact ⟨⟨ob, ps, ob', ps', h1.below hb, h2.below hb, fun i hi hj => h3 i (o1 i hi) (o2 i hj), fun i hi hx => hx.elim (h4 i (o1 i hi)) (fun h => by have := l1 i (o1 i hi); omega), fun i hi hx => hx.elim (h5 i (o2 i hi)) (fun h => by have := l2 i (o2 i hi); omega)⟩, h.few, h.few', fun i hi => hi.elim (fun hi => Nat.lt_of_lt_of_le (h.xb i hi) hb.size) (fun hi => hi.2)⟩
/-- a second that is made beside a first -/
theorem Duo.made {w w1 : World} {B g g' : Nat} {ms ms' : Mg} (h : Mn (fun i => i < B) w g ms) (hb : Below w.heap.size w w1) (h' : Mn (fun i => i < w.heap.size) w1 g' ms') : Duo (fun i => i < B) w1 g g' ms ms' := by
  obtain ⟨ob, ps, h1, h2⟩ := h.ex
  obtain ⟨ob', ps', h3, h4⟩ := h'.ex
  have l1 : ∀ i, OwnM w1 g ob ps i → i < w.heap.size ∧ ¬ i < B := fun i hi => hi.elim (fun hi => ⟨h1.ltS hi, h2 i hi⟩) (fun hv => have hv' := hv.same (hb.block _ (h1.ltS (.inl rfl))); ⟨vb_lt h1 hv', h.ver i hv'⟩)
  have l2 : ∀ i, OwnM w1 g' ob' ps' i → ¬ i < w.heap.size := fun i hi => hi.elim (h4 i) (h'.ver i)
  have hB : ∀ i, i < B → i < w.heap.size := fun i hi => h.xb i hi
  exact ⟨⟨ob, ps, ob', ps', h1.below hb, h3, fun i hi hj => l2 i hj (l1 i hi).1, fun i hi => (l1 i hi).2, fun i hi hx => l2 i hi (hB i hx)⟩, h.few, h'.few, fun i hi => Nat.lt_of_lt_of_le (hB i hi) hb.size⟩
end Go.Proofs.YtlkmcbelmldleaaGreat
/- a step's answer -/
namespace Go.Proofs.YtlkmcbelmldleaaGreat
open Go.RowKit
open Go.Maps (Keyed has size)
set_option maxRecDepth 40000
set_option linter.unusedVariables false
set_option maxHeartbeats 4000000 in
theorem do_otherE (X : Nat → Prop) (w : World) (g : Nat) (ms : Mg) (h : Mn X w g ms) (k : Nat) (hk : ¬ (1 ≤ k ∧ k ≤ 7)) (t : Int) (key to val : ByteArray) :
    Calls Tryz.prog 19 #[.pointer (some ⟨g, 0, none⟩), .agg #[.int .u8 (k : Nat), .int .i64 t, .string key, .string to, .string val]] w fun e w' => e = .returned (.agg #[.int .i64 15, .int .i64 0, .string ⟨#[]⟩, .bool false, .slice none 0 0, .slice none 0 0, .int .u64 0]) ∧ Mn X w' g ms ∧ Frm (fun i => ¬ X i) w w' := by
  have n1a : ¬ (k : Int) = 1 := by omega
  have n1b : ((k : Int) == 1) = false := by simp; omega
  have n1c : (k == 1) = false := by simp; omega
  have n1d : decide ((k : Int) = 1) = false := decide_eq_false (by omega)
  have n2a : ¬ (k : Int) = 2 := by omega
  have n2b : ((k : Int) == 2) = false := by simp; omega
  have n2c : (k == 2) = false := by simp; omega
  have n2d : decide ((k : Int) = 2) = false := decide_eq_false (by omega)
  have n3a : ¬ (k : Int) = 3 := by omega
  have n3b : ((k : Int) == 3) = false := by simp; omega
  have n3c : (k == 3) = false := by simp; omega
  have n3d : decide ((k : Int) = 3) = false := decide_eq_false (by omega)
  have n4a : ¬ (k : Int) = 4 := by omega
  have n4b : ((k : Int) == 4) = false := by simp; omega
  have n4c : (k == 4) = false := by simp; omega
  have n4d : decide ((k : Int) = 4) = false := decide_eq_false (by omega)
  have n5a : ¬ (k : Int) = 5 := by omega
  have n5b : ((k : Int) == 5) = false := by simp; omega
  have n5c : (k == 5) = false := by simp; omega
  have n5d : decide ((k : Int) = 5) = false := decide_eq_false (by omega)
  have n6a : ¬ (k : Int) = 6 := by omega
  have n6b : ((k : Int) == 6) = false := by simp; omega
  have n6c : (k == 6) = false := by simp; omega
  have n6d : decide ((k : Int) = 6) = false := decide_eq_false (by omega)
  have n7a : ¬ (k : Int) = 7 := by omega
  have n7b : ((k : Int) == 7) = false := by simp; omega
  have n7c : (k == 7) = false := by simp; omega
  have n7d : decide ((k : Int) = 7) = false := decide_eq_false (by omega)
  have HB : Hid (Below w.heap.size w (((w.alloc (.cells #[.int .u8 (k : Nat), .int .i64 t, .string key, .string to, .string val] 40)).alloc (.cells #[.int .i64 15, .int .i64 0, .string ⟨#[]⟩, .bool false, .slice none 0 0, .slice none 0 0, .int .u64 0] 47)).alloc (.cells #[.int .i64 15, .int .i64 0, .string ⟨#[]⟩, .bool false, .slice none 0 0, .slice none 0 0, .int .u64 0] 47))) := hide ((((Below.refl _ w).alloc (Nat.le_refl _) _).alloc (by simp) _).alloc (by simp; omega) _)
  have HM := hide (h.below HB.out)
  have hsz1 : (w.alloc (.cells #[.int .u8 (k : Nat), .int .i64 t, .string key, .string to, .string val] 40)).heap.size = w.heap.size + 1 := World.size_alloc _ _
  have hsz2 : ((w.alloc (.cells #[.int .u8 (k : Nat), .int .i64 t, .string key, .string to, .string val] 40)).alloc (.cells #[.int .i64 15, .int .i64 0, .string ⟨#[]⟩, .bool false, .slice none 0 0, .slice none 0 0, .int .u64 0] 47)).heap.size = w.heap.size + 1 + 1 := by rw [World.size_alloc, hsz1]
  have HT : Hid ((((w.alloc (.cells #[.int .u8 (k : Nat), .int .i64 t, .string key, .string to, .string val] 40)).alloc (.cells #[.int .i64 15, .int .i64 0, .string ⟨#[]⟩, .bool false, .slice none 0 0, .slice none 0 0, .int .u64 0] 47)).alloc (.cells #[.int .i64 15, .int .i64 0, .string ⟨#[]⟩, .bool false, .slice none 0 0, .slice none 0 0, .int .u64 0] 47)).heap[w.heap.size + 1]? = some (.cells #[.int .i64 15, .int .i64 0, .string ⟨#[]⟩, .bool false, .slice none 0 0, .slice none 0 0, .int .u64 0] 47 (0, 0))) := hide ((Below.heap_alloc _ _ _ (by rw [hsz2]; omega)).trans (by have := heap_alloc_new (w.alloc (.cells #[.int .u8 (k : Nat), .int .i64 t, .string key, .string to, .string val] 40)) (.cells #[.int .i64 15, .int .i64 0, .string ⟨#[]⟩, .bool false, .slice none 0 0, .slice none 0 0, .int .u64 0] 47); rw [hsz1] at this; exact this))
  clear h hsz1 hsz2 hk
  go_enter Tryz.func19, Tryz.ntmps19
  go_wp2
  refine bodyPost_ret (results_cell_row (P := Tryz.prog) (p := 4) (ty := 47) rfl _ _ _ 47 _ (0, 0) _ rfl HT.out Tryz.underlying47 rfl (by kernel_rfl)) rfl ?_
  exact ⟨rfl, HM.out, Frm.below HB.out⟩

theorem own_isPP {w : World} {base : Nat} {n c : Nat} {a : Option Addr} {l : List Pr} (hl : l.length = n) (h : w.ownsRow base 62 2 (.slice a n c) n (l.flatMap prc)) : IsP w a n c l := by
  rcases h.2 with ⟨e, hn⟩ | ⟨g, cap, cur, e, _, hg, h1, h2, h3, h4⟩
  · cases e
    exact ⟨hl, Nat.le_refl _, Nat.zero_le _, fun i hi => absurd hi (Nat.not_lt_zero _)⟩
  · cases e
    refine ⟨hl, h1, h2, fun i hi => ⟨g, 0, rfl, heap_lt hg, ?_, ?_⟩⟩
    · exact own_cells prc Pr0 2 (fun _ => rfl) hl hg h3 h4 i 0 hi (by omega)
    · exact own_cells prc Pr0 2 (fun _ => rfl) hl hg h3 h4 i 1 hi (by omega)
theorem isP_nil (w : World) : IsP w none 0 0 [] := ⟨rfl, Nat.le_refl _, Nat.zero_le _, fun i hi => absurd hi (Nat.not_lt_zero _)⟩
theorem isW_nil (w : World) : IsW w none 0 0 [] := ⟨rfl, Nat.le_refl _, Nat.zero_le _, fun i hi => absurd hi (Nat.not_lt_zero _)⟩
/-- an answer, and the blocks that it has -/
structure Has (w : World) (Z : Nat → Prop) (v : Value) (A : An) : Prop where
  now : IsA w v A
  kept : ∀ W : World, (∀ j, Z j → W.heap[j]? = w.heap[j]?) → IsA W v A
/-- what a step answers -/
def AnOk (ms : Mg) (k : Nat) (t : Int) (key to val : ByteArray) (A : An) : Prop :=
  if k = 1 then A = ⟨(mBegin ms).2.2, (mBegin ms).2.1, ⟨#[]⟩, false, [], [], 0⟩
  else if k = 2 then A = ⟨(mGet ms t key).2.2.2, 0, (mGet ms t key).2.1, (mGet ms t key).2.2.1, [], [], 0⟩
  else if k = 3 then ∃ l, ScanL ms t key to l ∧ A = ⟨(mScan ms t key to).2, 0, ⟨#[]⟩, false, l, [], 0⟩
  else if k = 4 then A = ⟨(mWrite ms t ⟨key, val, false⟩).2, 0, ⟨#[]⟩, false, [], [], 0⟩
  else if k = 5 then A = ⟨(mWrite ms t ⟨key, ⟨#[]⟩, true⟩).2, 0, ⟨#[]⟩, false, [], [], 0⟩
  else if k = 6 then A = ⟨(mCommit ms t).2.2.2, 0, ⟨#[]⟩, false, [], (mCommit ms t).2.1, (mCommit ms t).2.2.1⟩
  else if k = 7 then A = ⟨(mAbort ms t).2, 0, ⟨#[]⟩, false, [], [], 0⟩
  else A = ⟨15, 0, ⟨#[]⟩, false, [], [], 0⟩
theorem has_few (w : World) (why tx : Int) (val : ByteArray) (is : Bool) (time : Nat) (Z : Nat → Prop) : Has w Z (.agg #[.int .i64 why, .int .i64 tx, .string val, .bool is, .slice none 0 0, .slice none 0 0, .int .u64 (time : Nat)]) ⟨why, tx, val, is, [], [], time⟩ :=
  ⟨⟨none, 0, 0, none, 0, 0, rfl, isP_nil _, isW_nil _⟩, fun W _ => ⟨none, 0, 0, none, 0, 0, rfl, isP_nil _, isW_nil _⟩⟩
theorem has_pairs {w : World} {B : Nat} {pv : Value} {l : List Pr} (h : w.ownsRow B 62 2 pv l.length (l.flatMap prc)) (why : Int) : Has w (fun j => pv.ownBlock = some j) (.agg #[.int .i64 why, .int .i64 0, .string ⟨#[]⟩, .bool false, pv, .slice none 0 0, .int .u64 0]) ⟨why, 0, ⟨#[]⟩, false, l, [], 0⟩ := by
  obtain ⟨a, c, rfl⟩ := own_form h
  exact ⟨⟨a, _, c, none, 0, 0, rfl, own_isPP rfl h, isW_nil _⟩, fun W hW => ⟨a, _, c, none, 0, 0, rfl, own_isPP rfl (row_kept h hW), isW_nil _⟩⟩
theorem has_done {w : World} {B : Nat} {pv : Value} {l : List Wt} (h : w.ownsRow B 64 3 pv l.length (l.flatMap wtc)) (why : Int) (time : Nat) : Has w (fun j => pv.ownBlock = some j) (.agg #[.int .i64 why, .int .i64 0, .string ⟨#[]⟩, .bool false, .slice none 0 0, pv, .int .u64 (time : Nat)]) ⟨why, 0, ⟨#[]⟩, false, [], l, time⟩ := by
  obtain ⟨a, c, rfl⟩ := own_form h
  exact ⟨⟨none, 0, 0, a, _, c, rfl, isP_nil _, own_isW rfl h⟩, fun W hW => ⟨none, 0, 0, a, _, c, rfl, isP_nil _, own_isW rfl (row_kept h hW)⟩⟩
theorem do_ans (X : Nat → Prop) (w : World) (g : Nat) (ms : Mg) (h : Mn X w g ms) (k : Nat) (t : Int) (ht : -9223372036854775808 ≤ t ∧ t ≤ 9223372036854775807) (key to val : ByteArray) (hlast : ms.last + 1 < 4611686018427387904) (hnow : ms.now + 1 < 18446744073709551616) :
    Calls Tryz.prog 19 #[.pointer (some ⟨g, 0, none⟩), .agg #[.int .u8 (k : Nat), .int .i64 t, .string key, .string to, .string val]] w fun e w' => ∃ (v : Value) (A : An) (Z : Nat → Prop), e = .returned v ∧ AnOk ms k t key to val A ∧ Has w' Z v A ∧ (∀ j, Z j → w.heap.size ≤ j) ∧ Mn (fun j => X j ∨ Z j) w' g (mDo ms k t key to val) ∧ Frm (fun i => ¬ X i) w w' := by
  have none : ∀ {w' : World} {ms' : Mg}, Mn X w' g ms' → Mn (fun j => X j ∨ False) w' g ms' := fun h => h.mono (fun i hi => hi.elim id False.elim)
  by_cases hk : 1 ≤ k ∧ k ≤ 7
  · obtain ⟨h1, h7⟩ := hk
    rcases (by omega : k = 1 ∨ k = 2 ∨ k = 3 ∨ k = 4 ∨ k = 5 ∨ k = 6 ∨ k = 7) with rfl | rfl | rfl | rfl | rfl | rfl | rfl
    · exact (do_beginE X w g ms h t ht key to val hlast).mono (fun e w' q => ⟨_, _, fun _ => False, q.1, rfl, has_few _ _ _ _ _ 0 _, fun j hj => hj.elim, none q.2.1, q.2.2⟩)
    · exact (do_get X w g ms h t ht key to val).mono (fun e w' q => ⟨_, _, fun _ => False, q.1, rfl, has_few _ _ _ _ _ 0 _, fun j hj => hj.elim, none q.2.1, q.2.2⟩)
    · exact (do_scanE X w g ms h t ht key to val).mono (fun e w' ⟨pv, l8, q1, q2, q3, q4, q5⟩ => ⟨_, _, fun j => pv.ownBlock = some j, q1, ⟨l8, q3, rfl⟩, has_pairs q2 _, fun j hj => (q2.lt j hj).1, q4, q5⟩)
    · exact (do_put X w g ms h t ht key to val).mono (fun e w' q => ⟨_, _, fun _ => False, q.1, rfl, has_few _ _ _ _ _ 0 _, fun j hj => hj.elim, none q.2.1, q.2.2⟩)
    · exact (do_delete X w g ms h t ht key to val).mono (fun e w' q => ⟨_, _, fun _ => False, q.1, rfl, has_few _ _ _ _ _ 0 _, fun j hj => hj.elim, none q.2.1, q.2.2⟩)
    · exact (do_commitE X w g ms h t ht key to val hnow).mono (fun e w' ⟨pv, q1, q2, q4, q5⟩ => ⟨_, _, fun j => pv.ownBlock = some j, q1, rfl, has_done q2 _ _, fun j hj => (q2.lt j hj).1, q4, q5⟩)
    · exact (do_abortE X w g ms h t ht key to val).mono (fun e w' q => ⟨_, _, fun _ => False, q.1, rfl, has_few _ _ _ _ _ 0 _, fun j hj => hj.elim, none q.2.1, q.2.2⟩)
  · have hd : mDo ms k t key to val = ms := by
      unfold mDo
      rw [if_neg (by omega), if_neg (by omega), if_neg (by omega), if_neg (by omega), if_neg (by omega), if_neg (by omega), if_neg (by omega)]
    have hA : AnOk ms k t key to val ⟨15, 0, ⟨#[]⟩, false, [], [], 0⟩ := by
      unfold AnOk
      rw [if_neg (by omega), if_neg (by omega), if_neg (by omega), if_neg (by omega), if_neg (by omega), if_neg (by omega), if_neg (by omega)]
    rw [hd]
    exact (do_otherE X w g ms h k hk t key to val).mono (fun e w' q => ⟨_, _, fun _ => False, q.1, hA, has_few _ _ _ _ _ 0 _, fun j hj => hj.elim, none q.2.1, q.2.2⟩)
end Go.Proofs.YtlkmcbelmldleaaGreat
/- what holds of every manager that steps have made -/
namespace Go.Proofs.YtlkmcbelmldleaaGreat
open Go.RowKit
set_option maxRecDepth 40000
/-- its versions are good, and none is of a time to come; its writes are short -/
structure Gd (ms : Mg) : Prop where
  good : goodB ms.low ms.vs = true
  low : ms.low ≤ ms.now
  vat : ∀ x ∈ ms.vs, x.at_ ≤ ms.now
  ws : ∀ x ∈ ms.opn, x.2.ws.any longB = false
section
variable {ms : Mg}
theorem Gd.turn (h : Gd ms) {i n : Nat} {tr' : Tr} (hb : tr'.ws.any longB = false) : Gd (ms.turn i n tr') := by
  refine ⟨h.good, h.low, h.vat, fun x hx => ?_⟩
  obtain ⟨j, hj⟩ := List.mem_iff_getElem?.1 hx
  rcases get_set (show (ms.opn.set i (n, tr'))[j]? = some x from hj) with ⟨_, e, _⟩ | ⟨_, e⟩
  · rw [e]; exact hb
  · exact h.ws x (List.mem_of_getElem? e)
theorem Gd.begin (h : Gd ms) : Gd (mBegin ms).1 := by
  unfold mBegin
  split
  · exact h
  · refine ⟨h.good, h.low, h.vat, fun x hx => ?_⟩
    have hx' : x ∈ ms.opn ++ [(ms.last + 1, (⟨ms.now, [], []⟩ : Tr))] := hx
    rcases List.mem_append.1 hx' with hx' | hx'
    · exact h.ws x hx'
    · rw [List.mem_singleton.1 hx']; rfl
theorem Gd.ended (h : Gd ms) (hn : ms.now ≤ 2305843009213693952) (i : Nat) : Gd (ms.ended i) := by
  have hws : ∀ x ∈ ms.opn.eraseIdx i, x.2.ws.any longB = false := fun x hx => h.ws x (List.mem_of_mem_eraseIdx hx)
  have hl := (lowOf_le ms.now (ms.opn.eraseIdx i)).1
  unfold Mg.ended
  by_cases hs : sweepE ms.low ms.vs (lowOf ms.now (ms.opn.eraseIdx i)) = 0
  · rw [sweepR_yes hs, if_pos rfl]
    exact ⟨good_sub h.good (Nat.le_trans hl hn) _, hl, fun x hx => h.vat x (List.mem_filter.1 hx).1, hws⟩
  · have hz : ¬ (sweepR ms.low ms.vs (lowOf ms.now (ms.opn.eraseIdx i))).2.2 = 0 := by
      unfold sweepR
      rw [if_neg hs]; exact hs
    rw [if_neg hz]
    exact ⟨h.good, h.low, h.vat, hws⟩
theorem putL_mem {low : Nat} {l : List Vr} {ws : List Wt} {t : Nat} (h : refE low l ws t = 0) {x : Vr} (hx : x ∈ putL t l ws) : x ∈ l ∨ x.at_ = t := by
  obtain ⟨h1, _, _, h4, _, _, h7, _⟩ := ref_zero h
  have k2 := (putL_good t ws l (good_srt h1) (fun y hy _ _ _ => by
    have := List.any_eq_false.1 h7 y hy
    unfold lateB at this
    simp at this
    omega) (by unfold twiceB at h4; simpa using h4)).2
  rcases List.mem_append.1 (k2.mem_iff.1 hx) with h | h
  · exact .inl h
  · obtain ⟨y, _, rfl⟩ := List.mem_map.1 h
    exact .inr rfl
theorem Gd.com (h : Gd ms) (tr : Tr) : Gd (comM ms tr) := by
  unfold comM
  split
  · exact h
  · next hn =>
    have hz : (putR ms.low ms.vs tr.ws (ms.now + 1)).2.2 = 0 := Classical.not_not.1 (fun hh => hn (.inr (.inr hh)))
    have hr : refE ms.low ms.vs tr.ws (ms.now + 1) = 0 := by
      by_cases hq : refE ms.low ms.vs tr.ws (ms.now + 1) = 0
      · exact hq
      · unfold putR at hz
        rw [if_neg hq] at hz
        exact absurd hz hq
    have e : putR ms.low ms.vs tr.ws (ms.now + 1) = (putL (ms.now + 1) ms.vs tr.ws, ms.low, 0) := by unfold putR; rw [if_pos hr]
    rw [e]
    refine ⟨put_good hr, Nat.le_succ_of_le h.low, fun x hx => ?_, h.ws⟩
    rcases putL_mem hr hx with h1 | h1
    · exact Nat.le_succ_of_le (h.vat x h1)
    · exact Nat.le_of_eq h1
theorem Gd.does (h : Gd ms) (hn : ms.now + 1 ≤ 2305843009213693952) (k : Nat) (t : Int) (ky to val : ByteArray) : Gd (mDo ms k t ky to val) := by
  have hw : ∀ x, Gd (mWrite ms t x).1 := fun x => by
    unfold mWrite
    cases ha : ms.at t with
    | none => exact h
    | some y =>
      obtain ⟨i, n, tr⟩ := y
      exact h.turn (wrote_long (h.ws _ (List.mem_of_getElem? (at_some ha).1)))
  unfold mDo
  split
  · exact h.begin
  split
  · unfold mGet
    cases ha : ms.at t with
    | none => exact h
    | some y =>
      obtain ⟨i, n, tr⟩ := y
      have := h.ws _ (List.mem_of_getElem? (at_some ha).1)
      exact h.turn (by split <;> exact this)
  split
  · unfold mScan
    cases ha : ms.at t with
    | none => exact h
    | some y =>
      obtain ⟨i, n, tr⟩ := y
      have := h.ws _ (List.mem_of_getElem? (at_some ha).1)
      dsimp only
      split
      · exact h
      · exact h.turn this
  split
  · exact hw _
  split
  · exact hw _
  split
  · unfold mCommit
    cases ha : ms.at t with
    | none => exact h
    | some y =>
      obtain ⟨i, n, tr⟩ := y
      exact (h.com tr).ended (Nat.le_trans (comM_nums ms tr).2 hn) i
  split
  · unfold mAbort
    cases ha : ms.at t with
    | none => exact h
    | some y =>
      obtain ⟨i, n, tr⟩ := y
      exact h.ended (by omega) i
  · exact h
/-- a commit that nothing stands against is done, or finds too many -/
theorem Gd.commit (h : Gd ms) (hn : ms.now + 1 ≤ 2305843009213693952) {i n : Nat} {tr : Tr} (hq : ms.opn[i]? = some (n, tr)) (hs : SrtW tr.ws) (hl : tr.ws.length ≤ 256) (hc : conflB ms.vs tr = false) : comE ms tr = 0 ∨ comE ms tr = 3 := by
  unfold comE
  rw [if_neg (by rw [hc]; simp)]
  split
  · exact .inl rfl
  · have hlong := h.ws _ (List.mem_of_getElem? hq)
    have ht : timeB (ms.now + 1) = true := decide_eq_true ⟨by omega, hn⟩
    have hlow : ¬ (ms.now + 1 < ms.low ∨ ms.vs.any (lateB (ms.now + 1)) = true) := by
      rintro (h1 | h1)
      · have := h.low; omega
      · obtain ⟨x, hx, hl⟩ := List.any_eq_true.1 h1
        have := h.vat x hx
        unfold lateB at hl
        simp at hl
        omega
    have hr : refE ms.low ms.vs tr.ws (ms.now + 1) = 0 ∨ refE ms.low ms.vs tr.ws (ms.now + 1) = 3 := by
      unfold refE
      rw [if_pos h.good, if_neg (by omega), if_neg (by rw [hlong]; simp), if_neg (by rw [srt_twice hs]; simp), if_pos ht, if_neg hlow]
      split
      · exact .inr rfl
      · exact .inl rfl
    unfold putR
    rcases hr with hr | hr
    · rw [if_pos hr]; exact .inl rfl
    · rw [if_neg (by rw [hr]; decide)]; exact .inr hr
end
theorem gd_start {l : List Pr} (h : newE l = 0) : Gd ⟨1, vsN l, 1, 0, []⟩ :=
  ⟨vsN_good h, Nat.le_refl _, fun x hx => (putL_mem (new_ref h) hx).elim (fun h => by cases h) (fun e => Nat.le_of_eq e), fun x hx => by cases hx⟩
end Go.Proofs.YtlkmcbelmldleaaGreat

/- Do, the other kinds; whatever the kind -/
import Derived.Test.YtlkmcbelmldleaaGreatSe
import Derived.Test.YtlkmcbelmldleaaGreatTz
namespace Go.Proofs.YtlkmcbelmldleaaGreat
open Go.RowKit
open Go.Maps (Keyed has size)
set_option maxRecDepth 40000
set_option linter.unusedVariables false
set_option maxHeartbeats 4000000 in
theorem do_begin (X : Nat → Prop) (w : World) (g : Nat) (ms : Mg) (h : Mn X w g ms) (t : Int) (ht : -9223372036854775808 ≤ t ∧ t ≤ 9223372036854775807) (key to val : ByteArray) (hlast : ms.last + 1 < 4611686018427387904) :
    Calls Tryz.prog 19 #[.pointer (some ⟨g, 0, none⟩), .agg #[.int .u8 1, .int .i64 t, .string key, .string to, .string val]] w fun e w' => (∃ v, e = .returned v) ∧ Mn X w' g (mBegin ms).1 ∧ Frm (fun i => ¬ X i) w w' := by
  have HB : Hid (Below w.heap.size w (((w.alloc (.cells #[.int .u8 1, .int .i64 t, .string key, .string to, .string val] 40)).alloc (.cells #[.int .i64 0, .int .i64 0, .string ⟨#[]⟩, .bool false, .slice none 0 0, .slice none 0 0, .int .u64 0] 47)).alloc (.cells #[.int .i64 0, .int .i64 0, .string ⟨#[]⟩, .bool false, .slice none 0 0, .slice none 0 0, .int .u64 0] 47))) := hide ((((Below.refl _ w).alloc (Nat.le_refl _) _).alloc (by simp) _).alloc (by simp; omega) _)
  have HM := hide (h.news HB.out)
  have HC := hide (mn_begin _ _ g ms HM.out hlast)
  have hsz1 : (w.alloc (.cells #[.int .u8 1, .int .i64 t, .string key, .string to, .string val] 40)).heap.size = w.heap.size + 1 := World.size_alloc _ _
  have hsz2 : ((w.alloc (.cells #[.int .u8 1, .int .i64 t, .string key, .string to, .string val] 40)).alloc (.cells #[.int .i64 0, .int .i64 0, .string ⟨#[]⟩, .bool false, .slice none 0 0, .slice none 0 0, .int .u64 0] 47)).heap.size = w.heap.size + 1 + 1 := by rw [World.size_alloc, hsz1]
  have HSV : Hid ((((w.alloc (.cells #[.int .u8 1, .int .i64 t, .string key, .string to, .string val] 40)).alloc (.cells #[.int .i64 0, .int .i64 0, .string ⟨#[]⟩, .bool false, .slice none 0 0, .slice none 0 0, .int .u64 0] 47)).alloc (.cells #[.int .i64 0, .int .i64 0, .string ⟨#[]⟩, .bool false, .slice none 0 0, .slice none 0 0, .int .u64 0] 47)).heap.size = w.heap.size + 1 + 1 + 1) := hide (by rw [World.size_alloc, hsz2])
  have HV4 : Hid ((((w.alloc (.cells #[.int .u8 1, .int .i64 t, .string key, .string to, .string val] 40)).alloc (.cells #[.int .i64 0, .int .i64 0, .string ⟨#[]⟩, .bool false, .slice none 0 0, .slice none 0 0, .int .u64 0] 47)).alloc (.cells #[.int .i64 0, .int .i64 0, .string ⟨#[]⟩, .bool false, .slice none 0 0, .slice none 0 0, .int .u64 0] 47)).heap[w.heap.size + 1]? = some (.cells #[.int .i64 0, .int .i64 0, .string ⟨#[]⟩, .bool false, .slice none 0 0, .slice none 0 0, .int .u64 0] 47 (0, 0))) := hide ((Below.heap_alloc _ _ _ (by rw [hsz2]; omega)).trans (by have := heap_alloc_new (w.alloc (.cells #[.int .u8 1, .int .i64 t, .string key, .string to, .string val] 40)) (.cells #[.int .i64 0, .int .i64 0, .string ⟨#[]⟩, .bool false, .slice none 0 0, .slice none 0 0, .int .u64 0] 47); rw [hsz1] at this; exact this))
  have HV5 : Hid ((((w.alloc (.cells #[.int .u8 1, .int .i64 t, .string key, .string to, .string val] 40)).alloc (.cells #[.int .i64 0, .int .i64 0, .string ⟨#[]⟩, .bool false, .slice none 0 0, .slice none 0 0, .int .u64 0] 47)).alloc (.cells #[.int .i64 0, .int .i64 0, .string ⟨#[]⟩, .bool false, .slice none 0 0, .slice none 0 0, .int .u64 0] 47)).heap[w.heap.size + 1 + 1]? = some (.cells #[.int .i64 0, .int .i64 0, .string ⟨#[]⟩, .bool false, .slice none 0 0, .slice none 0 0, .int .u64 0] 47 (0, 0))) := hide (by have := heap_alloc_new ((w.alloc (.cells #[.int .u8 1, .int .i64 t, .string key, .string to, .string val] 40)).alloc (.cells #[.int .i64 0, .int .i64 0, .string ⟨#[]⟩, .bool false, .slice none 0 0, .slice none 0 0, .int .u64 0] 47)) (.cells #[.int .i64 0, .int .i64 0, .string ⟨#[]⟩, .bool false, .slice none 0 0, .slice none 0 0, .int .u64 0] 47); rw [hsz2] at this; exact this)
  clear h ht hsz1 hsz2
  go_enter Tryz.func19, Tryz.ntmps19
  go_wp2_with fail
  refine HC.out.mono ?_
  rintro e w1 ⟨rfl, hM, hF⟩
  have HM1 := hide hM
  have HF1 := hide hF
  have HW4 : Hid (w1.heap[w.heap.size + 1]? = some (.cells #[.int .i64 0, .int .i64 0, .string ⟨#[]⟩, .bool false, .slice none 0 0, .slice none 0 0, .int .u64 0] 47 (0, 0))) := hide ((hF.block _ (heap_lt HV4.out) (fun hn => hn (.inr ⟨by omega, by have := HSV.out; omega⟩))).trans HV4.out)
  have HW5 : Hid (w1.heap[w.heap.size + 1 + 1]? = some (.cells #[.int .i64 0, .int .i64 0, .string ⟨#[]⟩, .bool false, .slice none 0 0, .slice none 0 0, .int .u64 0] 47 (0, 0))) := hide ((hF.block _ (heap_lt HV5.out) (fun hn => hn (.inr ⟨by omega, by have := HSV.out; omega⟩))).trans HV5.out)
  clear hM hF HC
  have HX : Hid (∀ i, (w.heap.size ≤ i ∧ i < (((w.alloc (.cells #[.int .u8 1, .int .i64 t, .string key, .string to, .string val] 40)).alloc (.cells #[.int .i64 0, .int .i64 0, .string ⟨#[]⟩, .bool false, .slice none 0 0, .slice none 0 0, .int .u64 0] 47)).alloc (.cells #[.int .i64 0, .int .i64 0, .string ⟨#[]⟩, .bool false, .slice none 0 0, .slice none 0 0, .int .u64 0] 47)).heap.size) → (X i ∨ (w.heap.size ≤ i ∧ i < (((w.alloc (.cells #[.int .u8 1, .int .i64 t, .string key, .string to, .string val] 40)).alloc (.cells #[.int .i64 0, .int .i64 0, .string ⟨#[]⟩, .bool false, .slice none 0 0, .slice none 0 0, .int .u64 0] 47)).alloc (.cells #[.int .i64 0, .int .i64 0, .string ⟨#[]⟩, .bool false, .slice none 0 0, .slice none 0 0, .int .u64 0] 47)).heap.size))) := hide (fun i hi => .inr hi)
  have HX0 : Hid (∀ i, X i → (X i ∨ (w.heap.size ≤ i ∧ i < (((w.alloc (.cells #[.int .u8 1, .int .i64 t, .string key, .string to, .string val] 40)).alloc (.cells #[.int .i64 0, .int .i64 0, .string ⟨#[]⟩, .bool false, .slice none 0 0, .slice none 0 0, .int .u64 0] 47)).alloc (.cells #[.int .i64 0, .int .i64 0, .string ⟨#[]⟩, .bool false, .slice none 0 0, .slice none 0 0, .int .u64 0] 47)).heap.size))) := hide (fun i hi => .inl hi)
  have a0 : w1.cell? ⟨w.heap.size + 1 + 1, 0, none⟩ = some (.int .i64 0) := cell_blk HW5.out rfl
  have b0 : w1.cell? ⟨w.heap.size + 1, 0, none⟩ = some (.int .i64 0) := cell_blk HW4.out rfl
  have g0 : w1.frozen? ⟨w.heap.size + 1, 0, none⟩ = false := frz HW4.out 0
  have a1 : w1.cell? ⟨w.heap.size + 1 + 1, 1, none⟩ = some (.int .i64 0) := cell_blk HW5.out rfl
  have b1 : w1.cell? ⟨w.heap.size + 1, 1, none⟩ = some (.int .i64 0) := cell_blk HW4.out rfl
  have g1 : w1.frozen? ⟨w.heap.size + 1, 1, none⟩ = false := frz HW4.out 1
  have a2 : w1.cell? ⟨w.heap.size + 1 + 1, 2, none⟩ = some (.string ⟨#[]⟩) := cell_blk HW5.out rfl
  have b2 : w1.cell? ⟨w.heap.size + 1, 2, none⟩ = some (.string ⟨#[]⟩) := cell_blk HW4.out rfl
  have g2 : w1.frozen? ⟨w.heap.size + 1, 2, none⟩ = false := frz HW4.out 2
  have a3 : w1.cell? ⟨w.heap.size + 1 + 1, 3, none⟩ = some (.bool false) := cell_blk HW5.out rfl
  have b3 : w1.cell? ⟨w.heap.size + 1, 3, none⟩ = some (.bool false) := cell_blk HW4.out rfl
  have g3 : w1.frozen? ⟨w.heap.size + 1, 3, none⟩ = false := frz HW4.out 3
  have a4 : w1.cell? ⟨w.heap.size + 1 + 1, 4, none⟩ = some (.slice none 0 0) := cell_blk HW5.out rfl
  have b4 : w1.cell? ⟨w.heap.size + 1, 4, none⟩ = some (.slice none 0 0) := cell_blk HW4.out rfl
  have g4 : w1.frozen? ⟨w.heap.size + 1, 4, none⟩ = false := frz HW4.out 4
  have a5 : w1.cell? ⟨w.heap.size + 1 + 1, 5, none⟩ = some (.slice none 0 0) := cell_blk HW5.out rfl
  have b5 : w1.cell? ⟨w.heap.size + 1, 5, none⟩ = some (.slice none 0 0) := cell_blk HW4.out rfl
  have g5 : w1.frozen? ⟨w.heap.size + 1, 5, none⟩ = false := frz HW4.out 5
  have a6 : w1.cell? ⟨w.heap.size + 1 + 1, 6, none⟩ = some (.int .u64 0) := cell_blk HW5.out rfl
  have b6 : w1.cell? ⟨w.heap.size + 1, 6, none⟩ = some (.int .u64 0) := cell_blk HW4.out rfl
  have g6 : w1.frozen? ⟨w.heap.size + 1, 6, none⟩ = false := frz HW4.out 6
  have f1 : w1.frozen? ⟨w.heap.size + 1 + 1, 1, none⟩ = false := frz HW5.out 1
  have f0 : w1.frozen? ⟨w.heap.size + 1 + 1, 0, none⟩ = false := frz HW5.out 0
  have HT : Hid ((((((((((w1.setCell ⟨w.heap.size + 1 + 1, 1, none⟩ (.int .i64 (mBegin ms).2.1)).setCell ⟨w.heap.size + 1 + 1, 0, none⟩ (.int .i64 (mBegin ms).2.2)).setCell ⟨w.heap.size + 1, 0, none⟩ (.int .i64 (mBegin ms).2.2)).setCell ⟨w.heap.size + 1, 1, none⟩ (.int .i64 (mBegin ms).2.1)).setCell ⟨w.heap.size + 1, 2, none⟩ (.string ⟨#[]⟩)).setCell ⟨w.heap.size + 1, 3, none⟩ (.bool false)).setCell ⟨w.heap.size + 1, 4, none⟩ (.slice none 0 0)).setCell ⟨w.heap.size + 1, 5, none⟩ (.slice none 0 0)).setCell ⟨w.heap.size + 1, 6, none⟩ (.int .u64 0)).heap[w.heap.size + 1]? = some (.cells #[.int .i64 (mBegin ms).2.2, .int .i64 (mBegin ms).2.1, .string ⟨#[]⟩, .bool false, .slice none 0 0, .slice none 0 0, .int .u64 0] 47 (0, 0))) := hide (by
    have p0 : ((w1.setCell ⟨w.heap.size + 1 + 1, 1, none⟩ (.int .i64 (mBegin ms).2.1)).setCell ⟨w.heap.size + 1 + 1, 0, none⟩ (.int .i64 (mBegin ms).2.2)).heap[w.heap.size + 1]? = some (.cells #[.int .i64 0, .int .i64 0, .string ⟨#[]⟩, .bool false, .slice none 0 0, .slice none 0 0, .int .u64 0] 47 (0, 0)) := (Below.heap_setCell _ _ _ _ (by simp)).trans ((Below.heap_setCell _ _ _ _ (by simp)).trans (HW4.out))
    have p1 := blk_set2 (j := 0) p0 (.int .i64 (mBegin ms).2.2)
    have p2 := blk_set2 (j := 1) p1 (.int .i64 (mBegin ms).2.1)
    have p3 := blk_set2 (j := 2) p2 (.string ⟨#[]⟩)
    have p4 := blk_set2 (j := 3) p3 (.bool false)
    have p5 := blk_set2 (j := 4) p4 (.slice none 0 0)
    have p6 := blk_set2 (j := 5) p5 (.slice none 0 0)
    have p7 := blk_set2 (j := 6) p6 (.int .u64 0)
    simpa using p7)
  have HFE : Hid (Frm (fun i => ¬ X i) w (((((((((w1.setCell ⟨w.heap.size + 1 + 1, 1, none⟩ (.int .i64 (mBegin ms).2.1)).setCell ⟨w.heap.size + 1 + 1, 0, none⟩ (.int .i64 (mBegin ms).2.2)).setCell ⟨w.heap.size + 1, 0, none⟩ (.int .i64 (mBegin ms).2.2)).setCell ⟨w.heap.size + 1, 1, none⟩ (.int .i64 (mBegin ms).2.1)).setCell ⟨w.heap.size + 1, 2, none⟩ (.string ⟨#[]⟩)).setCell ⟨w.heap.size + 1, 3, none⟩ (.bool false)).setCell ⟨w.heap.size + 1, 4, none⟩ (.slice none 0 0)).setCell ⟨w.heap.size + 1, 5, none⟩ (.slice none 0 0)).setCell ⟨w.heap.size + 1, 6, none⟩ (.int .u64 0)) ∧ Mn X (((((((((w1.setCell ⟨w.heap.size + 1 + 1, 1, none⟩ (.int .i64 (mBegin ms).2.1)).setCell ⟨w.heap.size + 1 + 1, 0, none⟩ (.int .i64 (mBegin ms).2.2)).setCell ⟨w.heap.size + 1, 0, none⟩ (.int .i64 (mBegin ms).2.2)).setCell ⟨w.heap.size + 1, 1, none⟩ (.int .i64 (mBegin ms).2.1)).setCell ⟨w.heap.size + 1, 2, none⟩ (.string ⟨#[]⟩)).setCell ⟨w.heap.size + 1, 3, none⟩ (.bool false)).setCell ⟨w.heap.size + 1, 4, none⟩ (.slice none 0 0)).setCell ⟨w.heap.size + 1, 5, none⟩ (.slice none 0 0)).setCell ⟨w.heap.size + 1, 6, none⟩ (.int .u64 0)) g (mBegin ms).1) := hide (by
    have h0 : Frm (fun i => ¬ X i) w w1 := ⟨by rw [HF1.out.os]; exact HB.out.os, by rw [HF1.out.tape]; exact HB.out.tape, by rw [HF1.out.output]; exact HB.out.output, Nat.le_trans HB.out.size HF1.out.size, fun i hi hn => (HF1.out.block i (Nat.lt_of_lt_of_le hi HB.out.size) (fun hq => hq (.inl (Classical.not_not.1 hn)))).trans (HB.out.block i hi)⟩
    have hx5 : w.heap.size ≤ w.heap.size + 1 + 1 ∧ w.heap.size + 1 + 1 < (((w.alloc (.cells #[.int .u8 1, .int .i64 t, .string key, .string to, .string val] 40)).alloc (.cells #[.int .i64 0, .int .i64 0, .string ⟨#[]⟩, .bool false, .slice none 0 0, .slice none 0 0, .int .u64 0] 47)).alloc (.cells #[.int .i64 0, .int .i64 0, .string ⟨#[]⟩, .bool false, .slice none 0 0, .slice none 0 0, .int .u64 0] 47)).heap.size := ⟨by omega, by have := HSV.out; omega⟩
    have hx4 : w.heap.size ≤ w.heap.size + 1 ∧ w.heap.size + 1 < (((w.alloc (.cells #[.int .u8 1, .int .i64 t, .string key, .string to, .string val] 40)).alloc (.cells #[.int .i64 0, .int .i64 0, .string ⟨#[]⟩, .bool false, .slice none 0 0, .slice none 0 0, .int .u64 0] 47)).alloc (.cells #[.int .i64 0, .int .i64 0, .string ⟨#[]⟩, .bool false, .slice none 0 0, .slice none 0 0, .int .u64 0] 47)).heap.size := ⟨by omega, by have := HSV.out; omega⟩
    exact ⟨(Frm.setFar (Frm.setFar (Frm.setFar (Frm.setFar (Frm.setFar (Frm.setFar (Frm.setFar (Frm.setFar (Frm.setFar h0 (by simp; omega) _) (by simp; omega) _) (by simp) _) (by simp) _) (by simp) _) (by simp) _) (by simp) _) (by simp) _) (by simp) _), Mn.mono (Mn.setX (Mn.setX (Mn.setX (Mn.setX (Mn.setX (Mn.setX (Mn.setX (Mn.setX (Mn.setX HM1.out (HX.out _ hx5) _) (HX.out _ hx5) _) (HX.out _ hx4) _) (HX.out _ hx4) _) (HX.out _ hx4) _) (HX.out _ hx4) _) (HX.out _ hx4) _) (HX.out _ hx4) _) (HX.out _ hx4) _) (fun i hi => HX0.out i hi)⟩)
  clear HM1 HF1 HV4 HV5 HW4 HW5 HM HB HSV
  go_wp2
  refine bodyPost_ret (results_cell_row (P := Tryz.prog) (p := 4) (ty := 47) rfl _ _ _ 47 _ (0, 0) _ rfl HT.out Tryz.underlying47 rfl (by kernel_rfl)) rfl ?_
  exact ⟨⟨_, rfl⟩, HFE.out.2, HFE.out.1⟩
set_option maxHeartbeats 4000000 in
theorem do_scan (X : Nat → Prop) (w : World) (g : Nat) (ms : Mg) (h : Mn X w g ms) (t : Int) (ht : -9223372036854775808 ≤ t ∧ t ≤ 9223372036854775807) (key to val : ByteArray) :
    Calls Tryz.prog 19 #[.pointer (some ⟨g, 0, none⟩), .agg #[.int .u8 3, .int .i64 t, .string key, .string to, .string val]] w fun e w' => (∃ v, e = .returned v) ∧ Mn X w' g (mScan ms t key to).1 ∧ Frm (fun i => ¬ X i) w w' := by
  have HB : Hid (Below w.heap.size w (((w.alloc (.cells #[.int .u8 3, .int .i64 t, .string key, .string to, .string val] 40)).alloc (.cells #[.int .i64 0, .int .i64 0, .string ⟨#[]⟩, .bool false, .slice none 0 0, .slice none 0 0, .int .u64 0] 47)).alloc (.cells #[.int .i64 0, .int .i64 0, .string ⟨#[]⟩, .bool false, .slice none 0 0, .slice none 0 0, .int .u64 0] 47))) := hide ((((Below.refl _ w).alloc (Nat.le_refl _) _).alloc (by simp) _).alloc (by simp; omega) _)
  have HM := hide (h.news HB.out)
  have HC := hide (mn_scan _ _ g ms HM.out t ht key to)
  have hsz1 : (w.alloc (.cells #[.int .u8 3, .int .i64 t, .string key, .string to, .string val] 40)).heap.size = w.heap.size + 1 := World.size_alloc _ _
  have hsz2 : ((w.alloc (.cells #[.int .u8 3, .int .i64 t, .string key, .string to, .string val] 40)).alloc (.cells #[.int .i64 0, .int .i64 0, .string ⟨#[]⟩, .bool false, .slice none 0 0, .slice none 0 0, .int .u64 0] 47)).heap.size = w.heap.size + 1 + 1 := by rw [World.size_alloc, hsz1]
  have HSV : Hid ((((w.alloc (.cells #[.int .u8 3, .int .i64 t, .string key, .string to, .string val] 40)).alloc (.cells #[.int .i64 0, .int .i64 0, .string ⟨#[]⟩, .bool false, .slice none 0 0, .slice none 0 0, .int .u64 0] 47)).alloc (.cells #[.int .i64 0, .int .i64 0, .string ⟨#[]⟩, .bool false, .slice none 0 0, .slice none 0 0, .int .u64 0] 47)).heap.size = w.heap.size + 1 + 1 + 1) := hide (by rw [World.size_alloc, hsz2])
  have HV4 : Hid ((((w.alloc (.cells #[.int .u8 3, .int .i64 t, .string key, .string to, .string val] 40)).alloc (.cells #[.int .i64 0, .int .i64 0, .string ⟨#[]⟩, .bool false, .slice none 0 0, .slice none 0 0, .int .u64 0] 47)).alloc (.cells #[.int .i64 0, .int .i64 0, .string ⟨#[]⟩, .bool false, .slice none 0 0, .slice none 0 0, .int .u64 0] 47)).heap[w.heap.size + 1]? = some (.cells #[.int .i64 0, .int .i64 0, .string ⟨#[]⟩, .bool false, .slice none 0 0, .slice none 0 0, .int .u64 0] 47 (0, 0))) := hide ((Below.heap_alloc _ _ _ (by rw [hsz2]; omega)).trans (by have := heap_alloc_new (w.alloc (.cells #[.int .u8 3, .int .i64 t, .string key, .string to, .string val] 40)) (.cells #[.int .i64 0, .int .i64 0, .string ⟨#[]⟩, .bool false, .slice none 0 0, .slice none 0 0, .int .u64 0] 47); rw [hsz1] at this; exact this))
  have HV5 : Hid ((((w.alloc (.cells #[.int .u8 3, .int .i64 t, .string key, .string to, .string val] 40)).alloc (.cells #[.int .i64 0, .int .i64 0, .string ⟨#[]⟩, .bool false, .slice none 0 0, .slice none 0 0, .int .u64 0] 47)).alloc (.cells #[.int .i64 0, .int .i64 0, .string ⟨#[]⟩, .bool false, .slice none 0 0, .slice none 0 0, .int .u64 0] 47)).heap[w.heap.size + 1 + 1]? = some (.cells #[.int .i64 0, .int .i64 0, .string ⟨#[]⟩, .bool false, .slice none 0 0, .slice none 0 0, .int .u64 0] 47 (0, 0))) := hide (by have := heap_alloc_new ((w.alloc (.cells #[.int .u8 3, .int .i64 t, .string key, .string to, .string val] 40)).alloc (.cells #[.int .i64 0, .int .i64 0, .string ⟨#[]⟩, .bool false, .slice none 0 0, .slice none 0 0, .int .u64 0] 47)) (.cells #[.int .i64 0, .int .i64 0, .string ⟨#[]⟩, .bool false, .slice none 0 0, .slice none 0 0, .int .u64 0] 47); rw [hsz2] at this; exact this)
  clear h ht hsz1 hsz2
  go_enter Tryz.func19, Tryz.ntmps19
  go_wp2_with fail
  refine HC.out.mono ?_
  rintro e w1 ⟨v7, l8, rfl, hr8, _, hM8, hF⟩
  have hM := hM8.mono (Y := fun i => X i ∨ (w.heap.size ≤ i ∧ i < (((w.alloc (.cells #[.int .u8 3, .int .i64 t, .string key, .string to, .string val] 40)).alloc (.cells #[.int .i64 0, .int .i64 0, .string ⟨#[]⟩, .bool false, .slice none 0 0, .slice none 0 0, .int .u64 0] 47)).alloc (.cells #[.int .i64 0, .int .i64 0, .string ⟨#[]⟩, .bool false, .slice none 0 0, .slice none 0 0, .int .u64 0] 47)).heap.size)) (fun i hi => .inl hi)
  obtain ⟨a8, c8, rfl⟩ := own_form hr8
  clear hM8 hr8
  have HM1 := hide hM
  have HF1 := hide hF
  have HW4 : Hid (w1.heap[w.heap.size + 1]? = some (.cells #[.int .i64 0, .int .i64 0, .string ⟨#[]⟩, .bool false, .slice none 0 0, .slice none 0 0, .int .u64 0] 47 (0, 0))) := hide ((hF.block _ (heap_lt HV4.out) (fun hn => hn (.inr ⟨by omega, by have := HSV.out; omega⟩))).trans HV4.out)
  have HW5 : Hid (w1.heap[w.heap.size + 1 + 1]? = some (.cells #[.int .i64 0, .int .i64 0, .string ⟨#[]⟩, .bool false, .slice none 0 0, .slice none 0 0, .int .u64 0] 47 (0, 0))) := hide ((hF.block _ (heap_lt HV5.out) (fun hn => hn (.inr ⟨by omega, by have := HSV.out; omega⟩))).trans HV5.out)
  clear hM hF HC
  have HX : Hid (∀ i, (w.heap.size ≤ i ∧ i < (((w.alloc (.cells #[.int .u8 3, .int .i64 t, .string key, .string to, .string val] 40)).alloc (.cells #[.int .i64 0, .int .i64 0, .string ⟨#[]⟩, .bool false, .slice none 0 0, .slice none 0 0, .int .u64 0] 47)).alloc (.cells #[.int .i64 0, .int .i64 0, .string ⟨#[]⟩, .bool false, .slice none 0 0, .slice none 0 0, .int .u64 0] 47)).heap.size) → (X i ∨ (w.heap.size ≤ i ∧ i < (((w.alloc (.cells #[.int .u8 3, .int .i64 t, .string key, .string to, .string val] 40)).alloc (.cells #[.int .i64 0, .int .i64 0, .string ⟨#[]⟩, .bool false, .slice none 0 0, .slice none 0 0, .int .u64 0] 47)).alloc (.cells #[.int .i64 0, .int .i64 0, .string ⟨#[]⟩, .bool false, .slice none 0 0, .slice none 0 0, .int .u64 0] 47)).heap.size))) := hide (fun i hi => .inr hi)
  have HX0 : Hid (∀ i, X i → (X i ∨ (w.heap.size ≤ i ∧ i < (((w.alloc (.cells #[.int .u8 3, .int .i64 t, .string key, .string to, .string val] 40)).alloc (.cells #[.int .i64 0, .int .i64 0, .string ⟨#[]⟩, .bool false, .slice none 0 0, .slice none 0 0, .int .u64 0] 47)).alloc (.cells #[.int .i64 0, .int .i64 0, .string ⟨#[]⟩, .bool false, .slice none 0 0, .slice none 0 0, .int .u64 0] 47)).heap.size))) := hide (fun i hi => .inl hi)
  have a0 : w1.cell? ⟨w.heap.size + 1 + 1, 0, none⟩ = some (.int .i64 0) := cell_blk HW5.out rfl
  have b0 : w1.cell? ⟨w.heap.size + 1, 0, none⟩ = some (.int .i64 0) := cell_blk HW4.out rfl
  have g0 : w1.frozen? ⟨w.heap.size + 1, 0, none⟩ = false := frz HW4.out 0
  have a1 : w1.cell? ⟨w.heap.size + 1 + 1, 1, none⟩ = some (.int .i64 0) := cell_blk HW5.out rfl
  have b1 : w1.cell? ⟨w.heap.size + 1, 1, none⟩ = some (.int .i64 0) := cell_blk HW4.out rfl
  have g1 : w1.frozen? ⟨w.heap.size + 1, 1, none⟩ = false := frz HW4.out 1
  have a2 : w1.cell? ⟨w.heap.size + 1 + 1, 2, none⟩ = some (.string ⟨#[]⟩) := cell_blk HW5.out rfl
  have b2 : w1.cell? ⟨w.heap.size + 1, 2, none⟩ = some (.string ⟨#[]⟩) := cell_blk HW4.out rfl
  have g2 : w1.frozen? ⟨w.heap.size + 1, 2, none⟩ = false := frz HW4.out 2
  have a3 : w1.cell? ⟨w.heap.size + 1 + 1, 3, none⟩ = some (.bool false) := cell_blk HW5.out rfl
  have b3 : w1.cell? ⟨w.heap.size + 1, 3, none⟩ = some (.bool false) := cell_blk HW4.out rfl
  have g3 : w1.frozen? ⟨w.heap.size + 1, 3, none⟩ = false := frz HW4.out 3
  have a4 : w1.cell? ⟨w.heap.size + 1 + 1, 4, none⟩ = some (.slice none 0 0) := cell_blk HW5.out rfl
  have b4 : w1.cell? ⟨w.heap.size + 1, 4, none⟩ = some (.slice none 0 0) := cell_blk HW4.out rfl
  have g4 : w1.frozen? ⟨w.heap.size + 1, 4, none⟩ = false := frz HW4.out 4
  have a5 : w1.cell? ⟨w.heap.size + 1 + 1, 5, none⟩ = some (.slice none 0 0) := cell_blk HW5.out rfl
  have b5 : w1.cell? ⟨w.heap.size + 1, 5, none⟩ = some (.slice none 0 0) := cell_blk HW4.out rfl
  have g5 : w1.frozen? ⟨w.heap.size + 1, 5, none⟩ = false := frz HW4.out 5
  have a6 : w1.cell? ⟨w.heap.size + 1 + 1, 6, none⟩ = some (.int .u64 0) := cell_blk HW5.out rfl
  have b6 : w1.cell? ⟨w.heap.size + 1, 6, none⟩ = some (.int .u64 0) := cell_blk HW4.out rfl
  have g6 : w1.frozen? ⟨w.heap.size + 1, 6, none⟩ = false := frz HW4.out 6
  have f4 : w1.frozen? ⟨w.heap.size + 1 + 1, 4, none⟩ = false := frz HW5.out 4
  have f0 : w1.frozen? ⟨w.heap.size + 1 + 1, 0, none⟩ = false := frz HW5.out 0
  have HT : Hid ((((((((((w1.setCell ⟨w.heap.size + 1 + 1, 4, none⟩ (.slice a8 l8.length c8)).setCell ⟨w.heap.size + 1 + 1, 0, none⟩ (.int .i64 (mScan ms t key to).2)).setCell ⟨w.heap.size + 1, 0, none⟩ (.int .i64 (mScan ms t key to).2)).setCell ⟨w.heap.size + 1, 1, none⟩ (.int .i64 0)).setCell ⟨w.heap.size + 1, 2, none⟩ (.string ⟨#[]⟩)).setCell ⟨w.heap.size + 1, 3, none⟩ (.bool false)).setCell ⟨w.heap.size + 1, 4, none⟩ (.slice a8 l8.length c8)).setCell ⟨w.heap.size + 1, 5, none⟩ (.slice none 0 0)).setCell ⟨w.heap.size + 1, 6, none⟩ (.int .u64 0)).heap[w.heap.size + 1]? = some (.cells #[.int .i64 (mScan ms t key to).2, .int .i64 0, .string ⟨#[]⟩, .bool false, .slice a8 l8.length c8, .slice none 0 0, .int .u64 0] 47 (0, 0))) := hide (by
    have p0 : ((w1.setCell ⟨w.heap.size + 1 + 1, 4, none⟩ (.slice a8 l8.length c8)).setCell ⟨w.heap.size + 1 + 1, 0, none⟩ (.int .i64 (mScan ms t key to).2)).heap[w.heap.size + 1]? = some (.cells #[.int .i64 0, .int .i64 0, .string ⟨#[]⟩, .bool false, .slice none 0 0, .slice none 0 0, .int .u64 0] 47 (0, 0)) := (Below.heap_setCell _ _ _ _ (by simp)).trans ((Below.heap_setCell _ _ _ _ (by simp)).trans (HW4.out))
    have p1 := blk_set2 (j := 0) p0 (.int .i64 (mScan ms t key to).2)
    have p2 := blk_set2 (j := 1) p1 (.int .i64 0)
    have p3 := blk_set2 (j := 2) p2 (.string ⟨#[]⟩)
    have p4 := blk_set2 (j := 3) p3 (.bool false)
    have p5 := blk_set2 (j := 4) p4 (.slice a8 l8.length c8)
    have p6 := blk_set2 (j := 5) p5 (.slice none 0 0)
    have p7 := blk_set2 (j := 6) p6 (.int .u64 0)
    simpa using p7)
  have HFE : Hid (Frm (fun i => ¬ X i) w (((((((((w1.setCell ⟨w.heap.size + 1 + 1, 4, none⟩ (.slice a8 l8.length c8)).setCell ⟨w.heap.size + 1 + 1, 0, none⟩ (.int .i64 (mScan ms t key to).2)).setCell ⟨w.heap.size + 1, 0, none⟩ (.int .i64 (mScan ms t key to).2)).setCell ⟨w.heap.size + 1, 1, none⟩ (.int .i64 0)).setCell ⟨w.heap.size + 1, 2, none⟩ (.string ⟨#[]⟩)).setCell ⟨w.heap.size + 1, 3, none⟩ (.bool false)).setCell ⟨w.heap.size + 1, 4, none⟩ (.slice a8 l8.length c8)).setCell ⟨w.heap.size + 1, 5, none⟩ (.slice none 0 0)).setCell ⟨w.heap.size + 1, 6, none⟩ (.int .u64 0)) ∧ Mn X (((((((((w1.setCell ⟨w.heap.size + 1 + 1, 4, none⟩ (.slice a8 l8.length c8)).setCell ⟨w.heap.size + 1 + 1, 0, none⟩ (.int .i64 (mScan ms t key to).2)).setCell ⟨w.heap.size + 1, 0, none⟩ (.int .i64 (mScan ms t key to).2)).setCell ⟨w.heap.size + 1, 1, none⟩ (.int .i64 0)).setCell ⟨w.heap.size + 1, 2, none⟩ (.string ⟨#[]⟩)).setCell ⟨w.heap.size + 1, 3, none⟩ (.bool false)).setCell ⟨w.heap.size + 1, 4, none⟩ (.slice a8 l8.length c8)).setCell ⟨w.heap.size + 1, 5, none⟩ (.slice none 0 0)).setCell ⟨w.heap.size + 1, 6, none⟩ (.int .u64 0)) g (mScan ms t key to).1) := hide (by
    have h0 : Frm (fun i => ¬ X i) w w1 := ⟨by rw [HF1.out.os]; exact HB.out.os, by rw [HF1.out.tape]; exact HB.out.tape, by rw [HF1.out.output]; exact HB.out.output, Nat.le_trans HB.out.size HF1.out.size, fun i hi hn => (HF1.out.block i (Nat.lt_of_lt_of_le hi HB.out.size) (fun hq => hq (.inl (Classical.not_not.1 hn)))).trans (HB.out.block i hi)⟩
    have hx5 : w.heap.size ≤ w.heap.size + 1 + 1 ∧ w.heap.size + 1 + 1 < (((w.alloc (.cells #[.int .u8 3, .int .i64 t, .string key, .string to, .string val] 40)).alloc (.cells #[.int .i64 0, .int .i64 0, .string ⟨#[]⟩, .bool false, .slice none 0 0, .slice none 0 0, .int .u64 0] 47)).alloc (.cells #[.int .i64 0, .int .i64 0, .string ⟨#[]⟩, .bool false, .slice none 0 0, .slice none 0 0, .int .u64 0] 47)).heap.size := ⟨by omega, by have := HSV.out; omega⟩
    have hx4 : w.heap.size ≤ w.heap.size + 1 ∧ w.heap.size + 1 < (((w.alloc (.cells #[.int .u8 3, .int .i64 t, .string key, .string to, .string val] 40)).alloc (.cells #[.int .i64 0, .int .i64 0, .string ⟨#[]⟩, .bool false, .slice none 0 0, .slice none 0 0, .int .u64 0] 47)).alloc (.cells #[.int .i64 0, .int .i64 0, .string ⟨#[]⟩, .bool false, .slice none 0 0, .slice none 0 0, .int .u64 0] 47)).heap.size := ⟨by omega, by have := HSV.out; omega⟩
    exact ⟨(Frm.setFar (Frm.setFar (Frm.setFar (Frm.setFar (Frm.setFar (Frm.setFar (Frm.setFar (Frm.setFar (Frm.setFar h0 (by simp; omega) _) (by simp; omega) _) (by simp) _) (by simp) _) (by simp) _) (by simp) _) (by simp) _) (by simp) _) (by simp) _), Mn.mono (Mn.setX (Mn.setX (Mn.setX (Mn.setX (Mn.setX (Mn.setX (Mn.setX (Mn.setX (Mn.setX HM1.out (HX.out _ hx5) _) (HX.out _ hx5) _) (HX.out _ hx4) _) (HX.out _ hx4) _) (HX.out _ hx4) _) (HX.out _ hx4) _) (HX.out _ hx4) _) (HX.out _ hx4) _) (HX.out _ hx4) _) (fun i hi => HX0.out i hi)⟩)
  clear HM1 HF1 HV4 HV5 HW4 HW5 HM HB HSV
  go_wp2
  refine bodyPost_ret (results_cell_row (P := Tryz.prog) (p := 4) (ty := 47) rfl _ _ _ 47 _ (0, 0) _ rfl HT.out Tryz.underlying47 rfl (by kernel_rfl)) rfl ?_
  exact ⟨⟨_, rfl⟩, HFE.out.2, HFE.out.1⟩
set_option maxHeartbeats 4000000 in
theorem do_commit (X : Nat → Prop) (w : World) (g : Nat) (ms : Mg) (h : Mn X w g ms) (t : Int) (ht : -9223372036854775808 ≤ t ∧ t ≤ 9223372036854775807) (key to val : ByteArray) (hnow : ms.now + 1 < 18446744073709551616) :
    Calls Tryz.prog 19 #[.pointer (some ⟨g, 0, none⟩), .agg #[.int .u8 6, .int .i64 t, .string key, .string to, .string val]] w fun e w' => (∃ v, e = .returned v) ∧ Mn X w' g (mCommit ms t).1 ∧ Frm (fun i => ¬ X i) w w' := by
  have HB : Hid (Below w.heap.size w (((w.alloc (.cells #[.int .u8 6, .int .i64 t, .string key, .string to, .string val] 40)).alloc (.cells #[.int .i64 0, .int .i64 0, .string ⟨#[]⟩, .bool false, .slice none 0 0, .slice none 0 0, .int .u64 0] 47)).alloc (.cells #[.int .i64 0, .int .i64 0, .string ⟨#[]⟩, .bool false, .slice none 0 0, .slice none 0 0, .int .u64 0] 47))) := hide ((((Below.refl _ w).alloc (Nat.le_refl _) _).alloc (by simp) _).alloc (by simp; omega) _)
  have HM := hide (h.news HB.out)
  have HC := hide (mn_commit _ _ g ms HM.out t ht hnow)
  have hsz1 : (w.alloc (.cells #[.int .u8 6, .int .i64 t, .string key, .string to, .string val] 40)).heap.size = w.heap.size + 1 := World.size_alloc _ _
  have hsz2 : ((w.alloc (.cells #[.int .u8 6, .int .i64 t, .string key, .string to, .string val] 40)).alloc (.cells #[.int .i64 0, .int .i64 0, .string ⟨#[]⟩, .bool false, .slice none 0 0, .slice none 0 0, .int .u64 0] 47)).heap.size = w.heap.size + 1 + 1 := by rw [World.size_alloc, hsz1]
  have HSV : Hid ((((w.alloc (.cells #[.int .u8 6, .int .i64 t, .string key, .string to, .string val] 40)).alloc (.cells #[.int .i64 0, .int .i64 0, .string ⟨#[]⟩, .bool false, .slice none 0 0, .slice none 0 0, .int .u64 0] 47)).alloc (.cells #[.int .i64 0, .int .i64 0, .string ⟨#[]⟩, .bool false, .slice none 0 0, .slice none 0 0, .int .u64 0] 47)).heap.size = w.heap.size + 1 + 1 + 1) := hide (by rw [World.size_alloc, hsz2])
  have HV4 : Hid ((((w.alloc (.cells #[.int .u8 6, .int .i64 t, .string key, .string to, .string val] 40)).alloc (.cells #[.int .i64 0, .int .i64 0, .string ⟨#[]⟩, .bool false, .slice none 0 0, .slice none 0 0, .int .u64 0] 47)).alloc (.cells #[.int .i64 0, .int .i64 0, .string ⟨#[]⟩, .bool false, .slice none 0 0, .slice none 0 0, .int .u64 0] 47)).heap[w.heap.size + 1]? = some (.cells #[.int .i64 0, .int .i64 0, .string ⟨#[]⟩, .bool false, .slice none 0 0, .slice none 0 0, .int .u64 0] 47 (0, 0))) := hide ((Below.heap_alloc _ _ _ (by rw [hsz2]; omega)).trans (by have := heap_alloc_new (w.alloc (.cells #[.int .u8 6, .int .i64 t, .string key, .string to, .string val] 40)) (.cells #[.int .i64 0, .int .i64 0, .string ⟨#[]⟩, .bool false, .slice none 0 0, .slice none 0 0, .int .u64 0] 47); rw [hsz1] at this; exact this))
  have HV5 : Hid ((((w.alloc (.cells #[.int .u8 6, .int .i64 t, .string key, .string to, .string val] 40)).alloc (.cells #[.int .i64 0, .int .i64 0, .string ⟨#[]⟩, .bool false, .slice none 0 0, .slice none 0 0, .int .u64 0] 47)).alloc (.cells #[.int .i64 0, .int .i64 0, .string ⟨#[]⟩, .bool false, .slice none 0 0, .slice none 0 0, .int .u64 0] 47)).heap[w.heap.size + 1 + 1]? = some (.cells #[.int .i64 0, .int .i64 0, .string ⟨#[]⟩, .bool false, .slice none 0 0, .slice none 0 0, .int .u64 0] 47 (0, 0))) := hide (by have := heap_alloc_new ((w.alloc (.cells #[.int .u8 6, .int .i64 t, .string key, .string to, .string val] 40)).alloc (.cells #[.int .i64 0, .int .i64 0, .string ⟨#[]⟩, .bool false, .slice none 0 0, .slice none 0 0, .int .u64 0] 47)) (.cells #[.int .i64 0, .int .i64 0, .string ⟨#[]⟩, .bool false, .slice none 0 0, .slice none 0 0, .int .u64 0] 47); rw [hsz2] at this; exact this)
  clear h ht hsz1 hsz2
  go_enter Tryz.func19, Tryz.ntmps19
  go_wp2_with fail
  refine HC.out.mono ?_
  rintro e w1 ⟨v7, rfl, hr8, hM8, hF⟩
  have hM := hM8.mono (Y := fun i => X i ∨ (w.heap.size ≤ i ∧ i < (((w.alloc (.cells #[.int .u8 6, .int .i64 t, .string key, .string to, .string val] 40)).alloc (.cells #[.int .i64 0, .int .i64 0, .string ⟨#[]⟩, .bool false, .slice none 0 0, .slice none 0 0, .int .u64 0] 47)).alloc (.cells #[.int .i64 0, .int .i64 0, .string ⟨#[]⟩, .bool false, .slice none 0 0, .slice none 0 0, .int .u64 0] 47)).heap.size)) (fun i hi => .inl hi)
  obtain ⟨a8, c8, rfl⟩ := own_form hr8
  clear hM8 hr8
  have HM1 := hide hM
  have HF1 := hide hF
  have HW4 : Hid (w1.heap[w.heap.size + 1]? = some (.cells #[.int .i64 0, .int .i64 0, .string ⟨#[]⟩, .bool false, .slice none 0 0, .slice none 0 0, .int .u64 0] 47 (0, 0))) := hide ((hF.block _ (heap_lt HV4.out) (fun hn => hn (.inr ⟨by omega, by have := HSV.out; omega⟩))).trans HV4.out)
  have HW5 : Hid (w1.heap[w.heap.size + 1 + 1]? = some (.cells #[.int .i64 0, .int .i64 0, .string ⟨#[]⟩, .bool false, .slice none 0 0, .slice none 0 0, .int .u64 0] 47 (0, 0))) := hide ((hF.block _ (heap_lt HV5.out) (fun hn => hn (.inr ⟨by omega, by have := HSV.out; omega⟩))).trans HV5.out)
  clear hM hF HC
  have HX : Hid (∀ i, (w.heap.size ≤ i ∧ i < (((w.alloc (.cells #[.int .u8 6, .int .i64 t, .string key, .string to, .string val] 40)).alloc (.cells #[.int .i64 0, .int .i64 0, .string ⟨#[]⟩, .bool false, .slice none 0 0, .slice none 0 0, .int .u64 0] 47)).alloc (.cells #[.int .i64 0, .int .i64 0, .string ⟨#[]⟩, .bool false, .slice none 0 0, .slice none 0 0, .int .u64 0] 47)).heap.size) → (X i ∨ (w.heap.size ≤ i ∧ i < (((w.alloc (.cells #[.int .u8 6, .int .i64 t, .string key, .string to, .string val] 40)).alloc (.cells #[.int .i64 0, .int .i64 0, .string ⟨#[]⟩, .bool false, .slice none 0 0, .slice none 0 0, .int .u64 0] 47)).alloc (.cells #[.int .i64 0, .int .i64 0, .string ⟨#[]⟩, .bool false, .slice none 0 0, .slice none 0 0, .int .u64 0] 47)).heap.size))) := hide (fun i hi => .inr hi)
  have HX0 : Hid (∀ i, X i → (X i ∨ (w.heap.size ≤ i ∧ i < (((w.alloc (.cells #[.int .u8 6, .int .i64 t, .string key, .string to, .string val] 40)).alloc (.cells #[.int .i64 0, .int .i64 0, .string ⟨#[]⟩, .bool false, .slice none 0 0, .slice none 0 0, .int .u64 0] 47)).alloc (.cells #[.int .i64 0, .int .i64 0, .string ⟨#[]⟩, .bool false, .slice none 0 0, .slice none 0 0, .int .u64 0] 47)).heap.size))) := hide (fun i hi => .inl hi)
  have a0 : w1.cell? ⟨w.heap.size + 1 + 1, 0, none⟩ = some (.int .i64 0) := cell_blk HW5.out rfl
  have b0 : w1.cell? ⟨w.heap.size + 1, 0, none⟩ = some (.int .i64 0) := cell_blk HW4.out rfl
  have g0 : w1.frozen? ⟨w.heap.size + 1, 0, none⟩ = false := frz HW4.out 0
  have a1 : w1.cell? ⟨w.heap.size + 1 + 1, 1, none⟩ = some (.int .i64 0) := cell_blk HW5.out rfl
  have b1 : w1.cell? ⟨w.heap.size + 1, 1, none⟩ = some (.int .i64 0) := cell_blk HW4.out rfl
  have g1 : w1.frozen? ⟨w.heap.size + 1, 1, none⟩ = false := frz HW4.out 1
  have a2 : w1.cell? ⟨w.heap.size + 1 + 1, 2, none⟩ = some (.string ⟨#[]⟩) := cell_blk HW5.out rfl
  have b2 : w1.cell? ⟨w.heap.size + 1, 2, none⟩ = some (.string ⟨#[]⟩) := cell_blk HW4.out rfl
  have g2 : w1.frozen? ⟨w.heap.size + 1, 2, none⟩ = false := frz HW4.out 2
  have a3 : w1.cell? ⟨w.heap.size + 1 + 1, 3, none⟩ = some (.bool false) := cell_blk HW5.out rfl
  have b3 : w1.cell? ⟨w.heap.size + 1, 3, none⟩ = some (.bool false) := cell_blk HW4.out rfl
  have g3 : w1.frozen? ⟨w.heap.size + 1, 3, none⟩ = false := frz HW4.out 3
  have a4 : w1.cell? ⟨w.heap.size + 1 + 1, 4, none⟩ = some (.slice none 0 0) := cell_blk HW5.out rfl
  have b4 : w1.cell? ⟨w.heap.size + 1, 4, none⟩ = some (.slice none 0 0) := cell_blk HW4.out rfl
  have g4 : w1.frozen? ⟨w.heap.size + 1, 4, none⟩ = false := frz HW4.out 4
  have a5 : w1.cell? ⟨w.heap.size + 1 + 1, 5, none⟩ = some (.slice none 0 0) := cell_blk HW5.out rfl
  have b5 : w1.cell? ⟨w.heap.size + 1, 5, none⟩ = some (.slice none 0 0) := cell_blk HW4.out rfl
  have g5 : w1.frozen? ⟨w.heap.size + 1, 5, none⟩ = false := frz HW4.out 5
  have a6 : w1.cell? ⟨w.heap.size + 1 + 1, 6, none⟩ = some (.int .u64 0) := cell_blk HW5.out rfl
  have b6 : w1.cell? ⟨w.heap.size + 1, 6, none⟩ = some (.int .u64 0) := cell_blk HW4.out rfl
  have g6 : w1.frozen? ⟨w.heap.size + 1, 6, none⟩ = false := frz HW4.out 6
  have f5 : w1.frozen? ⟨w.heap.size + 1 + 1, 5, none⟩ = false := frz HW5.out 5
  have f6 : w1.frozen? ⟨w.heap.size + 1 + 1, 6, none⟩ = false := frz HW5.out 6
  have f0 : w1.frozen? ⟨w.heap.size + 1 + 1, 0, none⟩ = false := frz HW5.out 0
  have HT : Hid (((((((((((w1.setCell ⟨w.heap.size + 1 + 1, 5, none⟩ (.slice a8 (mCommit ms t).2.1.length c8)).setCell ⟨w.heap.size + 1 + 1, 6, none⟩ (.int .u64 ((mCommit ms t).2.2.1 : Nat))).setCell ⟨w.heap.size + 1 + 1, 0, none⟩ (.int .i64 (mCommit ms t).2.2.2)).setCell ⟨w.heap.size + 1, 0, none⟩ (.int .i64 (mCommit ms t).2.2.2)).setCell ⟨w.heap.size + 1, 1, none⟩ (.int .i64 0)).setCell ⟨w.heap.size + 1, 2, none⟩ (.string ⟨#[]⟩)).setCell ⟨w.heap.size + 1, 3, none⟩ (.bool false)).setCell ⟨w.heap.size + 1, 4, none⟩ (.slice none 0 0)).setCell ⟨w.heap.size + 1, 5, none⟩ (.slice a8 (mCommit ms t).2.1.length c8)).setCell ⟨w.heap.size + 1, 6, none⟩ (.int .u64 ((mCommit ms t).2.2.1 : Nat))).heap[w.heap.size + 1]? = some (.cells #[.int .i64 (mCommit ms t).2.2.2, .int .i64 0, .string ⟨#[]⟩, .bool false, .slice none 0 0, .slice a8 (mCommit ms t).2.1.length c8, .int .u64 ((mCommit ms t).2.2.1 : Nat)] 47 (0, 0))) := hide (by
    have p0 : (((w1.setCell ⟨w.heap.size + 1 + 1, 5, none⟩ (.slice a8 (mCommit ms t).2.1.length c8)).setCell ⟨w.heap.size + 1 + 1, 6, none⟩ (.int .u64 ((mCommit ms t).2.2.1 : Nat))).setCell ⟨w.heap.size + 1 + 1, 0, none⟩ (.int .i64 (mCommit ms t).2.2.2)).heap[w.heap.size + 1]? = some (.cells #[.int .i64 0, .int .i64 0, .string ⟨#[]⟩, .bool false, .slice none 0 0, .slice none 0 0, .int .u64 0] 47 (0, 0)) := (Below.heap_setCell _ _ _ _ (by simp)).trans ((Below.heap_setCell _ _ _ _ (by simp)).trans ((Below.heap_setCell _ _ _ _ (by simp)).trans (HW4.out)))
    have p1 := blk_set2 (j := 0) p0 (.int .i64 (mCommit ms t).2.2.2)
    have p2 := blk_set2 (j := 1) p1 (.int .i64 0)
    have p3 := blk_set2 (j := 2) p2 (.string ⟨#[]⟩)
    have p4 := blk_set2 (j := 3) p3 (.bool false)
    have p5 := blk_set2 (j := 4) p4 (.slice none 0 0)
    have p6 := blk_set2 (j := 5) p5 (.slice a8 (mCommit ms t).2.1.length c8)
    have p7 := blk_set2 (j := 6) p6 (.int .u64 ((mCommit ms t).2.2.1 : Nat))
    simpa using p7)
  have HFE : Hid (Frm (fun i => ¬ X i) w ((((((((((w1.setCell ⟨w.heap.size + 1 + 1, 5, none⟩ (.slice a8 (mCommit ms t).2.1.length c8)).setCell ⟨w.heap.size + 1 + 1, 6, none⟩ (.int .u64 ((mCommit ms t).2.2.1 : Nat))).setCell ⟨w.heap.size + 1 + 1, 0, none⟩ (.int .i64 (mCommit ms t).2.2.2)).setCell ⟨w.heap.size + 1, 0, none⟩ (.int .i64 (mCommit ms t).2.2.2)).setCell ⟨w.heap.size + 1, 1, none⟩ (.int .i64 0)).setCell ⟨w.heap.size + 1, 2, none⟩ (.string ⟨#[]⟩)).setCell ⟨w.heap.size + 1, 3, none⟩ (.bool false)).setCell ⟨w.heap.size + 1, 4, none⟩ (.slice none 0 0)).setCell ⟨w.heap.size + 1, 5, none⟩ (.slice a8 (mCommit ms t).2.1.length c8)).setCell ⟨w.heap.size + 1, 6, none⟩ (.int .u64 ((mCommit ms t).2.2.1 : Nat))) ∧ Mn X ((((((((((w1.setCell ⟨w.heap.size + 1 + 1, 5, none⟩ (.slice a8 (mCommit ms t).2.1.length c8)).setCell ⟨w.heap.size + 1 + 1, 6, none⟩ (.int .u64 ((mCommit ms t).2.2.1 : Nat))).setCell ⟨w.heap.size + 1 + 1, 0, none⟩ (.int .i64 (mCommit ms t).2.2.2)).setCell ⟨w.heap.size + 1, 0, none⟩ (.int .i64 (mCommit ms t).2.2.2)).setCell ⟨w.heap.size + 1, 1, none⟩ (.int .i64 0)).setCell ⟨w.heap.size + 1, 2, none⟩ (.string ⟨#[]⟩)).setCell ⟨w.heap.size + 1, 3, none⟩ (.bool false)).setCell ⟨w.heap.size + 1, 4, none⟩ (.slice none 0 0)).setCell ⟨w.heap.size + 1, 5, none⟩ (.slice a8 (mCommit ms t).2.1.length c8)).setCell ⟨w.heap.size + 1, 6, none⟩ (.int .u64 ((mCommit ms t).2.2.1 : Nat))) g (mCommit ms t).1) := hide (by
    have h0 : Frm (fun i => ¬ X i) w w1 := ⟨by rw [HF1.out.os]; exact HB.out.os, by rw [HF1.out.tape]; exact HB.out.tape, by rw [HF1.out.output]; exact HB.out.output, Nat.le_trans HB.out.size HF1.out.size, fun i hi hn => (HF1.out.block i (Nat.lt_of_lt_of_le hi HB.out.size) (fun hq => hq (.inl (Classical.not_not.1 hn)))).trans (HB.out.block i hi)⟩
    have hx5 : w.heap.size ≤ w.heap.size + 1 + 1 ∧ w.heap.size + 1 + 1 < (((w.alloc (.cells #[.int .u8 6, .int .i64 t, .string key, .string to, .string val] 40)).alloc (.cells #[.int .i64 0, .int .i64 0, .string ⟨#[]⟩, .bool false, .slice none 0 0, .slice none 0 0, .int .u64 0] 47)).alloc (.cells #[.int .i64 0, .int .i64 0, .string ⟨#[]⟩, .bool false, .slice none 0 0, .slice none 0 0, .int .u64 0] 47)).heap.size := ⟨by omega, by have := HSV.out; omega⟩
    have hx4 : w.heap.size ≤ w.heap.size + 1 ∧ w.heap.size + 1 < (((w.alloc (.cells #[.int .u8 6, .int .i64 t, .string key, .string to, .string val] 40)).alloc (.cells #[.int .i64 0, .int .i64 0, .string ⟨#[]⟩, .bool false, .slice none 0 0, .slice none 0 0, .int .u64 0] 47)).alloc (.cells #[.int .i64 0, .int .i64 0, .string ⟨#[]⟩, .bool false, .slice none 0 0, .slice none 0 0, .int .u64 0] 47)).heap.size := ⟨by omega, by have := HSV.out; omega⟩
    exact ⟨(Frm.setFar (Frm.setFar (Frm.setFar (Frm.setFar (Frm.setFar (Frm.setFar (Frm.setFar (Frm.setFar (Frm.setFar (Frm.setFar h0 (by simp; omega) _) (by simp; omega) _) (by simp; omega) _) (by simp) _) (by simp) _) (by simp) _) (by simp) _) (by simp) _) (by simp) _) (by simp) _), Mn.mono (Mn.setX (Mn.setX (Mn.setX (Mn.setX (Mn.setX (Mn.setX (Mn.setX (Mn.setX (Mn.setX (Mn.setX HM1.out (HX.out _ hx5) _) (HX.out _ hx5) _) (HX.out _ hx5) _) (HX.out _ hx4) _) (HX.out _ hx4) _) (HX.out _ hx4) _) (HX.out _ hx4) _) (HX.out _ hx4) _) (HX.out _ hx4) _) (HX.out _ hx4) _) (fun i hi => HX0.out i hi)⟩)
  clear HM1 HF1 HV4 HV5 HW4 HW5 HM HB HSV
  go_wp2
  refine bodyPost_ret (results_cell_row (P := Tryz.prog) (p := 4) (ty := 47) rfl _ _ _ 47 _ (0, 0) _ rfl HT.out Tryz.underlying47 rfl (by kernel_rfl)) rfl ?_
  exact ⟨⟨_, rfl⟩, HFE.out.2, HFE.out.1⟩
set_option maxHeartbeats 4000000 in
theorem do_abort (X : Nat → Prop) (w : World) (g : Nat) (ms : Mg) (h : Mn X w g ms) (t : Int) (ht : -9223372036854775808 ≤ t ∧ t ≤ 9223372036854775807) (key to val : ByteArray) :
    Calls Tryz.prog 19 #[.pointer (some ⟨g, 0, none⟩), .agg #[.int .u8 7, .int .i64 t, .string key, .string to, .string val]] w fun e w' => (∃ v, e = .returned v) ∧ Mn X w' g (mAbort ms t).1 ∧ Frm (fun i => ¬ X i) w w' := by
  have HB : Hid (Below w.heap.size w (((w.alloc (.cells #[.int .u8 7, .int .i64 t, .string key, .string to, .string val] 40)).alloc (.cells #[.int .i64 0, .int .i64 0, .string ⟨#[]⟩, .bool false, .slice none 0 0, .slice none 0 0, .int .u64 0] 47)).alloc (.cells #[.int .i64 0, .int .i64 0, .string ⟨#[]⟩, .bool false, .slice none 0 0, .slice none 0 0, .int .u64 0] 47))) := hide ((((Below.refl _ w).alloc (Nat.le_refl _) _).alloc (by simp) _).alloc (by simp; omega) _)
  have HM := hide (h.news HB.out)
  have HC := hide (mn_abort _ _ g ms HM.out t ht)
  have hsz1 : (w.alloc (.cells #[.int .u8 7, .int .i64 t, .string key, .string to, .string val] 40)).heap.size = w.heap.size + 1 := World.size_alloc _ _
  have hsz2 : ((w.alloc (.cells #[.int .u8 7, .int .i64 t, .string key, .string to, .string val] 40)).alloc (.cells #[.int .i64 0, .int .i64 0, .string ⟨#[]⟩, .bool false, .slice none 0 0, .slice none 0 0, .int .u64 0] 47)).heap.size = w.heap.size + 1 + 1 := by rw [World.size_alloc, hsz1]
  have HSV : Hid ((((w.alloc (.cells #[.int .u8 7, .int .i64 t, .string key, .string to, .string val] 40)).alloc (.cells #[.int .i64 0, .int .i64 0, .string ⟨#[]⟩, .bool false, .slice none 0 0, .slice none 0 0, .int .u64 0] 47)).alloc (.cells #[.int .i64 0, .int .i64 0, .string ⟨#[]⟩, .bool false, .slice none 0 0, .slice none 0 0, .int .u64 0] 47)).heap.size = w.heap.size + 1 + 1 + 1) := hide (by rw [World.size_alloc, hsz2])
  have HV4 : Hid ((((w.alloc (.cells #[.int .u8 7, .int .i64 t, .string key, .string to, .string val] 40)).alloc (.cells #[.int .i64 0, .int .i64 0, .string ⟨#[]⟩, .bool false, .slice none 0 0, .slice none 0 0, .int .u64 0] 47)).alloc (.cells #[.int .i64 0, .int .i64 0, .string ⟨#[]⟩, .bool false, .slice none 0 0, .slice none 0 0, .int .u64 0] 47)).heap[w.heap.size + 1]? = some (.cells #[.int .i64 0, .int .i64 0, .string ⟨#[]⟩, .bool false, .slice none 0 0, .slice none 0 0, .int .u64 0] 47 (0, 0))) := hide ((Below.heap_alloc _ _ _ (by rw [hsz2]; omega)).trans (by have := heap_alloc_new (w.alloc (.cells #[.int .u8 7, .int .i64 t, .string key, .string to, .string val] 40)) (.cells #[.int .i64 0, .int .i64 0, .string ⟨#[]⟩, .bool false, .slice none 0 0, .slice none 0 0, .int .u64 0] 47); rw [hsz1] at this; exact this))
  have HV5 : Hid ((((w.alloc (.cells #[.int .u8 7, .int .i64 t, .string key, .string to, .string val] 40)).alloc (.cells #[.int .i64 0, .int .i64 0, .string ⟨#[]⟩, .bool false, .slice none 0 0, .slice none 0 0, .int .u64 0] 47)).alloc (.cells #[.int .i64 0, .int .i64 0, .string ⟨#[]⟩, .bool false, .slice none 0 0, .slice none 0 0, .int .u64 0] 47)).heap[w.heap.size + 1 + 1]? = some (.cells #[.int .i64 0, .int .i64 0, .string ⟨#[]⟩, .bool false, .slice none 0 0, .slice none 0 0, .int .u64 0] 47 (0, 0))) := hide (by have := heap_alloc_new ((w.alloc (.cells #[.int .u8 7, .int .i64 t, .string key, .string to, .string val] 40)).alloc (.cells #[.int .i64 0, .int .i64 0, .string ⟨#[]⟩, .bool false, .slice none 0 0, .slice none 0 0, .int .u64 0] 47)) (.cells #[.int .i64 0, .int .i64 0, .string ⟨#[]⟩, .bool false, .slice none 0 0, .slice none 0 0, .int .u64 0] 47); rw [hsz2] at this; exact this)
  clear h ht hsz1 hsz2
  go_enter Tryz.func19, Tryz.ntmps19
  go_wp2_with fail
  refine HC.out.mono ?_
  rintro e w1 ⟨rfl, hM, hF⟩
  have HM1 := hide hM
  have HF1 := hide hF
  have HW4 : Hid (w1.heap[w.heap.size + 1]? = some (.cells #[.int .i64 0, .int .i64 0, .string ⟨#[]⟩, .bool false, .slice none 0 0, .slice none 0 0, .int .u64 0] 47 (0, 0))) := hide ((hF.block _ (heap_lt HV4.out) (fun hn => hn (.inr ⟨by omega, by have := HSV.out; omega⟩))).trans HV4.out)
  have HW5 : Hid (w1.heap[w.heap.size + 1 + 1]? = some (.cells #[.int .i64 0, .int .i64 0, .string ⟨#[]⟩, .bool false, .slice none 0 0, .slice none 0 0, .int .u64 0] 47 (0, 0))) := hide ((hF.block _ (heap_lt HV5.out) (fun hn => hn (.inr ⟨by omega, by have := HSV.out; omega⟩))).trans HV5.out)
  clear hM hF HC
  have HX : Hid (∀ i, (w.heap.size ≤ i ∧ i < (((w.alloc (.cells #[.int .u8 7, .int .i64 t, .string key, .string to, .string val] 40)).alloc (.cells #[.int .i64 0, .int .i64 0, .string ⟨#[]⟩, .bool false, .slice none 0 0, .slice none 0 0, .int .u64 0] 47)).alloc (.cells #[.int .i64 0, .int .i64 0, .string ⟨#[]⟩, .bool false, .slice none 0 0, .slice none 0 0, .int .u64 0] 47)).heap.size) → (X i ∨ (w.heap.size ≤ i ∧ i < (((w.alloc (.cells #[.int .u8 7, .int .i64 t, .string key, .string to, .string val] 40)).alloc (.cells #[.int .i64 0, .int .i64 0, .string ⟨#[]⟩, .bool false, .slice none 0 0, .slice none 0 0, .int .u64 0] 47)).alloc (.cells #[.int .i64 0, .int .i64 0, .string ⟨#[]⟩, .bool false, .slice none 0 0, .slice none 0 0, .int .u64 0] 47)).heap.size))) := hide (fun i hi => .inr hi)
  have HX0 : Hid (∀ i, X i → (X i ∨ (w.heap.size ≤ i ∧ i < (((w.alloc (.cells #[.int .u8 7, .int .i64 t, .string key, .string to, .string val] 40)).alloc (.cells #[.int .i64 0, .int .i64 0, .string ⟨#[]⟩, .bool false, .slice none 0 0, .slice none 0 0, .int .u64 0] 47)).alloc (.cells #[.int .i64 0, .int .i64 0, .string ⟨#[]⟩, .bool false, .slice none 0 0, .slice none 0 0, .int .u64 0] 47)).heap.size))) := hide (fun i hi => .inl hi)
  have a0 : w1.cell? ⟨w.heap.size + 1 + 1, 0, none⟩ = some (.int .i64 0) := cell_blk HW5.out rfl
  have b0 : w1.cell? ⟨w.heap.size + 1, 0, none⟩ = some (.int .i64 0) := cell_blk HW4.out rfl
  have g0 : w1.frozen? ⟨w.heap.size + 1, 0, none⟩ = false := frz HW4.out 0
  have a1 : w1.cell? ⟨w.heap.size + 1 + 1, 1, none⟩ = some (.int .i64 0) := cell_blk HW5.out rfl
  have b1 : w1.cell? ⟨w.heap.size + 1, 1, none⟩ = some (.int .i64 0) := cell_blk HW4.out rfl
  have g1 : w1.frozen? ⟨w.heap.size + 1, 1, none⟩ = false := frz HW4.out 1
  have a2 : w1.cell? ⟨w.heap.size + 1 + 1, 2, none⟩ = some (.string ⟨#[]⟩) := cell_blk HW5.out rfl
  have b2 : w1.cell? ⟨w.heap.size + 1, 2, none⟩ = some (.string ⟨#[]⟩) := cell_blk HW4.out rfl
  have g2 : w1.frozen? ⟨w.heap.size + 1, 2, none⟩ = false := frz HW4.out 2
  have a3 : w1.cell? ⟨w.heap.size + 1 + 1, 3, none⟩ = some (.bool false) := cell_blk HW5.out rfl
  have b3 : w1.cell? ⟨w.heap.size + 1, 3, none⟩ = some (.bool false) := cell_blk HW4.out rfl
  have g3 : w1.frozen? ⟨w.heap.size + 1, 3, none⟩ = false := frz HW4.out 3
  have a4 : w1.cell? ⟨w.heap.size + 1 + 1, 4, none⟩ = some (.slice none 0 0) := cell_blk HW5.out rfl
  have b4 : w1.cell? ⟨w.heap.size + 1, 4, none⟩ = some (.slice none 0 0) := cell_blk HW4.out rfl
  have g4 : w1.frozen? ⟨w.heap.size + 1, 4, none⟩ = false := frz HW4.out 4
  have a5 : w1.cell? ⟨w.heap.size + 1 + 1, 5, none⟩ = some (.slice none 0 0) := cell_blk HW5.out rfl
  have b5 : w1.cell? ⟨w.heap.size + 1, 5, none⟩ = some (.slice none 0 0) := cell_blk HW4.out rfl
  have g5 : w1.frozen? ⟨w.heap.size + 1, 5, none⟩ = false := frz HW4.out 5
  have a6 : w1.cell? ⟨w.heap.size + 1 + 1, 6, none⟩ = some (.int .u64 0) := cell_blk HW5.out rfl
  have b6 : w1.cell? ⟨w.heap.size + 1, 6, none⟩ = some (.int .u64 0) := cell_blk HW4.out rfl
  have g6 : w1.frozen? ⟨w.heap.size + 1, 6, none⟩ = false := frz HW4.out 6
  have f0 : w1.frozen? ⟨w.heap.size + 1 + 1, 0, none⟩ = false := frz HW5.out 0
  have HT : Hid (((((((((w1.setCell ⟨w.heap.size + 1 + 1, 0, none⟩ (.int .i64 (mAbort ms t).2)).setCell ⟨w.heap.size + 1, 0, none⟩ (.int .i64 (mAbort ms t).2)).setCell ⟨w.heap.size + 1, 1, none⟩ (.int .i64 0)).setCell ⟨w.heap.size + 1, 2, none⟩ (.string ⟨#[]⟩)).setCell ⟨w.heap.size + 1, 3, none⟩ (.bool false)).setCell ⟨w.heap.size + 1, 4, none⟩ (.slice none 0 0)).setCell ⟨w.heap.size + 1, 5, none⟩ (.slice none 0 0)).setCell ⟨w.heap.size + 1, 6, none⟩ (.int .u64 0)).heap[w.heap.size + 1]? = some (.cells #[.int .i64 (mAbort ms t).2, .int .i64 0, .string ⟨#[]⟩, .bool false, .slice none 0 0, .slice none 0 0, .int .u64 0] 47 (0, 0))) := hide (by
    have p0 : (w1.setCell ⟨w.heap.size + 1 + 1, 0, none⟩ (.int .i64 (mAbort ms t).2)).heap[w.heap.size + 1]? = some (.cells #[.int .i64 0, .int .i64 0, .string ⟨#[]⟩, .bool false, .slice none 0 0, .slice none 0 0, .int .u64 0] 47 (0, 0)) := (Below.heap_setCell _ _ _ _ (by simp)).trans (HW4.out)
    have p1 := blk_set2 (j := 0) p0 (.int .i64 (mAbort ms t).2)
    have p2 := blk_set2 (j := 1) p1 (.int .i64 0)
    have p3 := blk_set2 (j := 2) p2 (.string ⟨#[]⟩)
    have p4 := blk_set2 (j := 3) p3 (.bool false)
    have p5 := blk_set2 (j := 4) p4 (.slice none 0 0)
    have p6 := blk_set2 (j := 5) p5 (.slice none 0 0)
    have p7 := blk_set2 (j := 6) p6 (.int .u64 0)
    simpa using p7)
  have HFE : Hid (Frm (fun i => ¬ X i) w ((((((((w1.setCell ⟨w.heap.size + 1 + 1, 0, none⟩ (.int .i64 (mAbort ms t).2)).setCell ⟨w.heap.size + 1, 0, none⟩ (.int .i64 (mAbort ms t).2)).setCell ⟨w.heap.size + 1, 1, none⟩ (.int .i64 0)).setCell ⟨w.heap.size + 1, 2, none⟩ (.string ⟨#[]⟩)).setCell ⟨w.heap.size + 1, 3, none⟩ (.bool false)).setCell ⟨w.heap.size + 1, 4, none⟩ (.slice none 0 0)).setCell ⟨w.heap.size + 1, 5, none⟩ (.slice none 0 0)).setCell ⟨w.heap.size + 1, 6, none⟩ (.int .u64 0)) ∧ Mn X ((((((((w1.setCell ⟨w.heap.size + 1 + 1, 0, none⟩ (.int .i64 (mAbort ms t).2)).setCell ⟨w.heap.size + 1, 0, none⟩ (.int .i64 (mAbort ms t).2)).setCell ⟨w.heap.size + 1, 1, none⟩ (.int .i64 0)).setCell ⟨w.heap.size + 1, 2, none⟩ (.string ⟨#[]⟩)).setCell ⟨w.heap.size + 1, 3, none⟩ (.bool false)).setCell ⟨w.heap.size + 1, 4, none⟩ (.slice none 0 0)).setCell ⟨w.heap.size + 1, 5, none⟩ (.slice none 0 0)).setCell ⟨w.heap.size + 1, 6, none⟩ (.int .u64 0)) g (mAbort ms t).1) := hide (by
    have h0 : Frm (fun i => ¬ X i) w w1 := ⟨by rw [HF1.out.os]; exact HB.out.os, by rw [HF1.out.tape]; exact HB.out.tape, by rw [HF1.out.output]; exact HB.out.output, Nat.le_trans HB.out.size HF1.out.size, fun i hi hn => (HF1.out.block i (Nat.lt_of_lt_of_le hi HB.out.size) (fun hq => hq (.inl (Classical.not_not.1 hn)))).trans (HB.out.block i hi)⟩
    have hx5 : w.heap.size ≤ w.heap.size + 1 + 1 ∧ w.heap.size + 1 + 1 < (((w.alloc (.cells #[.int .u8 7, .int .i64 t, .string key, .string to, .string val] 40)).alloc (.cells #[.int .i64 0, .int .i64 0, .string ⟨#[]⟩, .bool false, .slice none 0 0, .slice none 0 0, .int .u64 0] 47)).alloc (.cells #[.int .i64 0, .int .i64 0, .string ⟨#[]⟩, .bool false, .slice none 0 0, .slice none 0 0, .int .u64 0] 47)).heap.size := ⟨by omega, by have := HSV.out; omega⟩
    have hx4 : w.heap.size ≤ w.heap.size + 1 ∧ w.heap.size + 1 < (((w.alloc (.cells #[.int .u8 7, .int .i64 t, .string key, .string to, .string val] 40)).alloc (.cells #[.int .i64 0, .int .i64 0, .string ⟨#[]⟩, .bool false, .slice none 0 0, .slice none 0 0, .int .u64 0] 47)).alloc (.cells #[.int .i64 0, .int .i64 0, .string ⟨#[]⟩, .bool false, .slice none 0 0, .slice none 0 0, .int .u64 0] 47)).heap.size := ⟨by omega, by have := HSV.out; omega⟩
    exact ⟨(Frm.setFar (Frm.setFar (Frm.setFar (Frm.setFar (Frm.setFar (Frm.setFar (Frm.setFar (Frm.setFar h0 (by simp; omega) _) (by simp) _) (by simp) _) (by simp) _) (by simp) _) (by simp) _) (by simp) _) (by simp) _), Mn.mono (Mn.setX (Mn.setX (Mn.setX (Mn.setX (Mn.setX (Mn.setX (Mn.setX (Mn.setX HM1.out (HX.out _ hx5) _) (HX.out _ hx4) _) (HX.out _ hx4) _) (HX.out _ hx4) _) (HX.out _ hx4) _) (HX.out _ hx4) _) (HX.out _ hx4) _) (HX.out _ hx4) _) (fun i hi => HX0.out i hi)⟩)
  clear HM1 HF1 HV4 HV5 HW4 HW5 HM HB HSV
  go_wp2
  refine bodyPost_ret (results_cell_row (P := Tryz.prog) (p := 4) (ty := 47) rfl _ _ _ 47 _ (0, 0) _ rfl HT.out Tryz.underlying47 rfl (by kernel_rfl)) rfl ?_
  exact ⟨⟨_, rfl⟩, HFE.out.2, HFE.out.1⟩
set_option maxHeartbeats 4000000 in
theorem do_other (X : Nat → Prop) (w : World) (g : Nat) (ms : Mg) (h : Mn X w g ms) (k : Nat) (hk : ¬ (1 ≤ k ∧ k ≤ 7)) (t : Int) (key to val : ByteArray) :
    Calls Tryz.prog 19 #[.pointer (some ⟨g, 0, none⟩), .agg #[.int .u8 (k : Nat), .int .i64 t, .string key, .string to, .string val]] w fun e w' => (∃ v, e = .returned v) ∧ Mn X w' g ms ∧ Frm (fun i => ¬ X i) w w' := by
  have n1a : ¬ (k : Int) = 1 := by omega
  have n1b : ((k : Int) == 1) = false := by simp; omega
  have n1c : (k == 1) = false := by simp; omega
  have n1d : decide ((k : Int) = 1) = false := decide_eq_false (by omega)
  have n2a : ¬ (k : Int) = 2 := by omega
  have n2b : ((k : Int) == 2) = false := by simp; omega
  have n2c : (k == 2) = false := by simp; omega
  have n2d : decide ((k : Int) = 2) = false := decide_eq_false (by omega)
  have n3a : ¬ (k : Int) = 3 := by omega
  have n3b : ((k : Int) == 3) = false := by simp; omega
  have n3c : (k == 3) = false := by simp; omega
  have n3d : decide ((k : Int) = 3) = false := decide_eq_false (by omega)
  have n4a : ¬ (k : Int) = 4 := by omega
  have n4b : ((k : Int) == 4) = false := by simp; omega
  have n4c : (k == 4) = false := by simp; omega
  have n4d : decide ((k : Int) = 4) = false := decide_eq_false (by omega)
  have n5a : ¬ (k : Int) = 5 := by omega
  have n5b : ((k : Int) == 5) = false := by simp; omega
  have n5c : (k == 5) = false := by simp; omega
  have n5d : decide ((k : Int) = 5) = false := decide_eq_false (by omega)
  have n6a : ¬ (k : Int) = 6 := by omega
  have n6b : ((k : Int) == 6) = false := by simp; omega
  have n6c : (k == 6) = false := by simp; omega
  have n6d : decide ((k : Int) = 6) = false := decide_eq_false (by omega)
  have n7a : ¬ (k : Int) = 7 := by omega
  have n7b : ((k : Int) == 7) = false := by simp; omega
  have n7c : (k == 7) = false := by simp; omega
  have n7d : decide ((k : Int) = 7) = false := decide_eq_false (by omega)
  have HB : Hid (Below w.heap.size w (((w.alloc (.cells #[.int .u8 (k : Nat), .int .i64 t, .string key, .string to, .string val] 40)).alloc (.cells #[.int .i64 15, .int .i64 0, .string ⟨#[]⟩, .bool false, .slice none 0 0, .slice none 0 0, .int .u64 0] 47)).alloc (.cells #[.int .i64 15, .int .i64 0, .string ⟨#[]⟩, .bool false, .slice none 0 0, .slice none 0 0, .int .u64 0] 47))) := hide ((((Below.refl _ w).alloc (Nat.le_refl _) _).alloc (by simp) _).alloc (by simp; omega) _)
  have HM := hide (h.below HB.out)
  have hsz1 : (w.alloc (.cells #[.int .u8 (k : Nat), .int .i64 t, .string key, .string to, .string val] 40)).heap.size = w.heap.size + 1 := World.size_alloc _ _
  have hsz2 : ((w.alloc (.cells #[.int .u8 (k : Nat), .int .i64 t, .string key, .string to, .string val] 40)).alloc (.cells #[.int .i64 15, .int .i64 0, .string ⟨#[]⟩, .bool false, .slice none 0 0, .slice none 0 0, .int .u64 0] 47)).heap.size = w.heap.size + 1 + 1 := by rw [World.size_alloc, hsz1]
  have HT : Hid ((((w.alloc (.cells #[.int .u8 (k : Nat), .int .i64 t, .string key, .string to, .string val] 40)).alloc (.cells #[.int .i64 15, .int .i64 0, .string ⟨#[]⟩, .bool false, .slice none 0 0, .slice none 0 0, .int .u64 0] 47)).alloc (.cells #[.int .i64 15, .int .i64 0, .string ⟨#[]⟩, .bool false, .slice none 0 0, .slice none 0 0, .int .u64 0] 47)).heap[w.heap.size + 1]? = some (.cells #[.int .i64 15, .int .i64 0, .string ⟨#[]⟩, .bool false, .slice none 0 0, .slice none 0 0, .int .u64 0] 47 (0, 0))) := hide ((Below.heap_alloc _ _ _ (by rw [hsz2]; omega)).trans (by have := heap_alloc_new (w.alloc (.cells #[.int .u8 (k : Nat), .int .i64 t, .string key, .string to, .string val] 40)) (.cells #[.int .i64 15, .int .i64 0, .string ⟨#[]⟩, .bool false, .slice none 0 0, .slice none 0 0, .int .u64 0] 47); rw [hsz1] at this; exact this))
  clear h hsz1 hsz2 hk
  go_enter Tryz.func19, Tryz.ntmps19
  go_wp2
  refine bodyPost_ret (results_cell_row (P := Tryz.prog) (p := 4) (ty := 47) rfl _ _ _ 47 _ (0, 0) _ rfl HT.out Tryz.underlying47 rfl (by kernel_rfl)) rfl ?_
  exact ⟨⟨_, rfl⟩, HM.out, Frm.below HB.out⟩
/-- what a step makes of a manager -/
def mDo (ms : Mg) (k : Nat) (t : Int) (key to val : ByteArray) : Mg :=
  if k = 1 then (mBegin ms).1 else if k = 2 then (mGet ms t key).1 else if k = 3 then (mScan ms t key to).1 else if k = 4 then (mWrite ms t ⟨key, val, false⟩).1
  else if k = 5 then (mWrite ms t ⟨key, ⟨#[]⟩, true⟩).1 else if k = 6 then (mCommit ms t).1 else if k = 7 then (mAbort ms t).1 else ms
theorem do_any (X : Nat → Prop) (w : World) (g : Nat) (ms : Mg) (h : Mn X w g ms) (k : Nat) (t : Int) (ht : -9223372036854775808 ≤ t ∧ t ≤ 9223372036854775807) (key to val : ByteArray) (hlast : ms.last + 1 < 4611686018427387904) (hnow : ms.now + 1 < 18446744073709551616) :
    Calls Tryz.prog 19 #[.pointer (some ⟨g, 0, none⟩), .agg #[.int .u8 (k : Nat), .int .i64 t, .string key, .string to, .string val]] w fun e w' => (∃ v, e = .returned v) ∧ Mn X w' g (mDo ms k t key to val) ∧ Frm (fun i => ¬ X i) w w' := by
  by_cases hk : 1 ≤ k ∧ k ≤ 7
  · obtain ⟨h1, h7⟩ := hk
    rcases (by omega : k = 1 ∨ k = 2 ∨ k = 3 ∨ k = 4 ∨ k = 5 ∨ k = 6 ∨ k = 7) with rfl | rfl | rfl | rfl | rfl | rfl | rfl
    · exact do_begin X w g ms h t ht key to val hlast
    · exact (do_get X w g ms h t ht key to val).mono (fun e w' q => ⟨⟨_, q.1⟩, q.2⟩)
    · exact do_scan X w g ms h t ht key to val
    · exact (do_put X w g ms h t ht key to val).mono (fun e w' q => ⟨⟨_, q.1⟩, q.2⟩)
    · exact (do_delete X w g ms h t ht key to val).mono (fun e w' q => ⟨⟨_, q.1⟩, q.2⟩)
    · exact do_commit X w g ms h t ht key to val hnow
    · exact do_abort X w g ms h t ht key to val
  · have e : mDo ms k t key to val = ms := by
      unfold mDo
      rw [if_neg (by omega), if_neg (by omega), if_neg (by omega), if_neg (by omega), if_neg (by omega), if_neg (by omega), if_neg (by omega)]
    rw [e]
    exact do_other X w g ms h k hk t key to val
end Go.Proofs.YtlkmcbelmldleaaGreat

/- Do, kind by kind -/
import Derived.Test.YtlkmcbelmldleaaGreatCx6
namespace Go.Proofs.YtlkmcbelmldleaaGreat
open Go.RowKit
open Go.Maps (Keyed has size)
set_option maxRecDepth 40000
theorem Frm.setFar {S : Nat → Prop} {a b : World} (h : Frm S a b) {ad : Addr} (hg : a.heap.size ≤ ad.block) (v : Value) : Frm S a (b.setCell ad v) :=
  ⟨h.os, h.tape, h.output, by simpa [World.setCell] using h.size, fun i hi hn => (Below.heap_setCell _ _ _ _ (by omega)).trans (h.block i hi hn)⟩
/-- a cell of a block that is none of the manager's -/
theorem Mn.setX {X : Nat → Prop} {w : World} {g : Nat} {ms : Mg} (h : Mn X w g ms) {ad : Addr} (hx : X ad.block) (v : Value) : Mn X (w.setCell ad v) g ms := by
  obtain ⟨ob, ps, h1, h2⟩ := h.ex
  have hs : (w.setCell ad v).heap.size = w.heap.size := by simp [World.setCell]
  have hoth : ∀ j, j ≠ ad.block → (w.setCell ad v).heap[j]? = w.heap[j]? := fun j hj => Below.heap_setCell _ _ _ _ hj
  have hgs : (w.setCell ad v).heap[g]? = w.heap[g]? := hoth g (fun e => h2 g (.inl rfl) (e ▸ hx))
  exact ⟨⟨ob, ps, h1.keptX (Nat.le_of_eq hs.symm) (fun i hi => hoth i (fun e => h2 i hi (e ▸ hx))) (fun i hi _ => hoth i (fun e => h.ver i hi (e ▸ hx))), h2⟩, fun b hv => h.ver b (hv.same hgs), h.few, fun i hi => by rw [hs]; exact h.xb i hi⟩
set_option maxHeartbeats 4000000 in
theorem do_get (X : Nat → Prop) (w : World) (g : Nat) (ms : Mg) (h : Mn X w g ms) (t : Int) (ht : -9223372036854775808 ≤ t ∧ t ≤ 9223372036854775807) (key to val : ByteArray) :
    Calls Tryz.prog 19 #[.pointer (some ⟨g, 0, none⟩), .agg #[.int .u8 2, .int .i64 t, .string key, .string to, .string val]] w fun e w' => e = .returned (.agg #[.int .i64 (mGet ms t key).2.2.2, .int .i64 0, .string (mGet ms t key).2.1, .bool (mGet ms t key).2.2.1, .slice none 0 0, .slice none 0 0, .int .u64 0]) ∧ Mn X w' g (mGet ms t key).1 ∧ Frm (fun i => ¬ X i) w w' := by
  have HB : Hid (Below w.heap.size w (((w.alloc (.cells #[.int .u8 2, .int .i64 t, .string key, .string to, .string val] 40)).alloc (.cells #[.int .i64 0, .int .i64 0, .string ⟨#[]⟩, .bool false, .slice none 0 0, .slice none 0 0, .int .u64 0] 47)).alloc (.cells #[.int .i64 0, .int .i64 0, .string ⟨#[]⟩, .bool false, .slice none 0 0, .slice none 0 0, .int .u64 0] 47))) := hide ((((Below.refl _ w).alloc (Nat.le_refl _) _).alloc (by simp) _).alloc (by simp; omega) _)
  have HM := hide (h.news HB.out)
  have HC := hide (mn_get _ _ g ms HM.out t ht key)
  have hsz1 : (w.alloc (.cells #[.int .u8 2, .int .i64 t, .string key, .string to, .string val] 40)).heap.size = w.heap.size + 1 := World.size_alloc _ _
  have hsz2 : ((w.alloc (.cells #[.int .u8 2, .int .i64 t, .string key, .string to, .string val] 40)).alloc (.cells #[.int .i64 0, .int .i64 0, .string ⟨#[]⟩, .bool false, .slice none 0 0, .slice none 0 0, .int .u64 0] 47)).heap.size = w.heap.size + 1 + 1 := by rw [World.size_alloc, hsz1]
  have HSV : Hid ((((w.alloc (.cells #[.int .u8 2, .int .i64 t, .string key, .string to, .string val] 40)).alloc (.cells #[.int .i64 0, .int .i64 0, .string ⟨#[]⟩, .bool false, .slice none 0 0, .slice none 0 0, .int .u64 0] 47)).alloc (.cells #[.int .i64 0, .int .i64 0, .string ⟨#[]⟩, .bool false, .slice none 0 0, .slice none 0 0, .int .u64 0] 47)).heap.size = w.heap.size + 1 + 1 + 1) := hide (by rw [World.size_alloc, hsz2])
  have HV4 : Hid ((((w.alloc (.cells #[.int .u8 2, .int .i64 t, .string key, .string to, .string val] 40)).alloc (.cells #[.int .i64 0, .int .i64 0, .string ⟨#[]⟩, .bool false, .slice none 0 0, .slice none 0 0, .int .u64 0] 47)).alloc (.cells #[.int .i64 0, .int .i64 0, .string ⟨#[]⟩, .bool false, .slice none 0 0, .slice none 0 0, .int .u64 0] 47)).heap[w.heap.size + 1]? = some (.cells #[.int .i64 0, .int .i64 0, .string ⟨#[]⟩, .bool false, .slice none 0 0, .slice none 0 0, .int .u64 0] 47 (0, 0))) := hide ((Below.heap_alloc _ _ _ (by rw [hsz2]; omega)).trans (by have := heap_alloc_new (w.alloc (.cells #[.int .u8 2, .int .i64 t, .string key, .string to, .string val] 40)) (.cells #[.int .i64 0, .int .i64 0, .string ⟨#[]⟩, .bool false, .slice none 0 0, .slice none 0 0, .int .u64 0] 47); rw [hsz1] at this; exact this))
  have HV5 : Hid ((((w.alloc (.cells #[.int .u8 2, .int .i64 t, .string key, .string to, .string val] 40)).alloc (.cells #[.int .i64 0, .int .i64 0, .string ⟨#[]⟩, .bool false, .slice none 0 0, .slice none 0 0, .int .u64 0] 47)).alloc (.cells #[.int .i64 0, .int .i64 0, .string ⟨#[]⟩, .bool false, .slice none 0 0, .slice none 0 0, .int .u64 0] 47)).heap[w.heap.size + 1 + 1]? = some (.cells #[.int .i64 0, .int .i64 0, .string ⟨#[]⟩, .bool false, .slice none 0 0, .slice none 0 0, .int .u64 0] 47 (0, 0))) := hide (by have := heap_alloc_new ((w.alloc (.cells #[.int .u8 2, .int .i64 t, .string key, .string to, .string val] 40)).alloc (.cells #[.int .i64 0, .int .i64 0, .string ⟨#[]⟩, .bool false, .slice none 0 0, .slice none 0 0, .int .u64 0] 47)) (.cells #[.int .i64 0, .int .i64 0, .string ⟨#[]⟩, .bool false, .slice none 0 0, .slice none 0 0, .int .u64 0] 47); rw [hsz2] at this; exact this)
  clear h ht hsz1 hsz2
  go_enter Tryz.func19, Tryz.ntmps19
  go_wp2_with fail
  refine HC.out.mono ?_
  rintro e w1 ⟨rfl, hM, hF⟩
  have HM1 := hide hM
  have HF1 := hide hF
  have HW4 : Hid (w1.heap[w.heap.size + 1]? = some (.cells #[.int .i64 0, .int .i64 0, .string ⟨#[]⟩, .bool false, .slice none 0 0, .slice none 0 0, .int .u64 0] 47 (0, 0))) := hide ((hF.block _ (heap_lt HV4.out) (fun hn => hn (.inr ⟨by omega, by have := HSV.out; omega⟩))).trans HV4.out)
  have HW5 : Hid (w1.heap[w.heap.size + 1 + 1]? = some (.cells #[.int .i64 0, .int .i64 0, .string ⟨#[]⟩, .bool false, .slice none 0 0, .slice none 0 0, .int .u64 0] 47 (0, 0))) := hide ((hF.block _ (heap_lt HV5.out) (fun hn => hn (.inr ⟨by omega, by have := HSV.out; omega⟩))).trans HV5.out)
  clear hM hF HC
  have HX : Hid (∀ i, (w.heap.size ≤ i ∧ i < (((w.alloc (.cells #[.int .u8 2, .int .i64 t, .string key, .string to, .string val] 40)).alloc (.cells #[.int .i64 0, .int .i64 0, .string ⟨#[]⟩, .bool false, .slice none 0 0, .slice none 0 0, .int .u64 0] 47)).alloc (.cells #[.int .i64 0, .int .i64 0, .string ⟨#[]⟩, .bool false, .slice none 0 0, .slice none 0 0, .int .u64 0] 47)).heap.size) → (X i ∨ (w.heap.size ≤ i ∧ i < (((w.alloc (.cells #[.int .u8 2, .int .i64 t, .string key, .string to, .string val] 40)).alloc (.cells #[.int .i64 0, .int .i64 0, .string ⟨#[]⟩, .bool false, .slice none 0 0, .slice none 0 0, .int .u64 0] 47)).alloc (.cells #[.int .i64 0, .int .i64 0, .string ⟨#[]⟩, .bool false, .slice none 0 0, .slice none 0 0, .int .u64 0] 47)).heap.size))) := hide (fun i hi => .inr hi)
  have HX0 : Hid (∀ i, X i → (X i ∨ (w.heap.size ≤ i ∧ i < (((w.alloc (.cells #[.int .u8 2, .int .i64 t, .string key, .string to, .string val] 40)).alloc (.cells #[.int .i64 0, .int .i64 0, .string ⟨#[]⟩, .bool false, .slice none 0 0, .slice none 0 0, .int .u64 0] 47)).alloc (.cells #[.int .i64 0, .int .i64 0, .string ⟨#[]⟩, .bool false, .slice none 0 0, .slice none 0 0, .int .u64 0] 47)).heap.size))) := hide (fun i hi => .inl hi)
  have a0 : w1.cell? ⟨w.heap.size + 1 + 1, 0, none⟩ = some (.int .i64 0) := cell_blk HW5.out rfl
  have b0 : w1.cell? ⟨w.heap.size + 1, 0, none⟩ = some (.int .i64 0) := cell_blk HW4.out rfl
  have g0 : w1.frozen? ⟨w.heap.size + 1, 0, none⟩ = false := frz HW4.out 0
  have a1 : w1.cell? ⟨w.heap.size + 1 + 1, 1, none⟩ = some (.int .i64 0) := cell_blk HW5.out rfl
  have b1 : w1.cell? ⟨w.heap.size + 1, 1, none⟩ = some (.int .i64 0) := cell_blk HW4.out rfl
  have g1 : w1.frozen? ⟨w.heap.size + 1, 1, none⟩ = false := frz HW4.out 1
  have a2 : w1.cell? ⟨w.heap.size + 1 + 1, 2, none⟩ = some (.string ⟨#[]⟩) := cell_blk HW5.out rfl
  have b2 : w1.cell? ⟨w.heap.size + 1, 2, none⟩ = some (.string ⟨#[]⟩) := cell_blk HW4.out rfl
  have g2 : w1.frozen? ⟨w.heap.size + 1, 2, none⟩ = false := frz HW4.out 2
  have a3 : w1.cell? ⟨w.heap.size + 1 + 1, 3, none⟩ = some (.bool false) := cell_blk HW5.out rfl
  have b3 : w1.cell? ⟨w.heap.size + 1, 3, none⟩ = some (.bool false) := cell_blk HW4.out rfl
  have g3 : w1.frozen? ⟨w.heap.size + 1, 3, none⟩ = false := frz HW4.out 3
  have a4 : w1.cell? ⟨w.heap.size + 1 + 1, 4, none⟩ = some (.slice none 0 0) := cell_blk HW5.out rfl
  have b4 : w1.cell? ⟨w.heap.size + 1, 4, none⟩ = some (.slice none 0 0) := cell_blk HW4.out rfl
  have g4 : w1.frozen? ⟨w.heap.size + 1, 4, none⟩ = false := frz HW4.out 4
  have a5 : w1.cell? ⟨w.heap.size + 1 + 1, 5, none⟩ = some (.slice none 0 0) := cell_blk HW5.out rfl
  have b5 : w1.cell? ⟨w.heap.size + 1, 5, none⟩ = some (.slice none 0 0) := cell_blk HW4.out rfl
  have g5 : w1.frozen? ⟨w.heap.size + 1, 5, none⟩ = false := frz HW4.out 5
  have a6 : w1.cell? ⟨w.heap.size + 1 + 1, 6, none⟩ = some (.int .u64 0) := cell_blk HW5.out rfl
  have b6 : w1.cell? ⟨w.heap.size + 1, 6, none⟩ = some (.int .u64 0) := cell_blk HW4.out rfl
  have g6 : w1.frozen? ⟨w.heap.size + 1, 6, none⟩ = false := frz HW4.out 6
  have f2 : w1.frozen? ⟨w.heap.size + 1 + 1, 2, none⟩ = false := frz HW5.out 2
  have f3 : w1.frozen? ⟨w.heap.size + 1 + 1, 3, none⟩ = false := frz HW5.out 3
  have f0 : w1.frozen? ⟨w.heap.size + 1 + 1, 0, none⟩ = false := frz HW5.out 0
  have HT : Hid (((((((((((w1.setCell ⟨w.heap.size + 1 + 1, 2, none⟩ (.string (mGet ms t key).2.1)).setCell ⟨w.heap.size + 1 + 1, 3, none⟩ (.bool (mGet ms t key).2.2.1)).setCell ⟨w.heap.size + 1 + 1, 0, none⟩ (.int .i64 (mGet ms t key).2.2.2)).setCell ⟨w.heap.size + 1, 0, none⟩ (.int .i64 (mGet ms t key).2.2.2)).setCell ⟨w.heap.size + 1, 1, none⟩ (.int .i64 0)).setCell ⟨w.heap.size + 1, 2, none⟩ (.string (mGet ms t key).2.1)).setCell ⟨w.heap.size + 1, 3, none⟩ (.bool (mGet ms t key).2.2.1)).setCell ⟨w.heap.size + 1, 4, none⟩ (.slice none 0 0)).setCell ⟨w.heap.size + 1, 5, none⟩ (.slice none 0 0)).setCell ⟨w.heap.size + 1, 6, none⟩ (.int .u64 0)).heap[w.heap.size + 1]? = some (.cells #[.int .i64 (mGet ms t key).2.2.2, .int .i64 0, .string (mGet ms t key).2.1, .bool (mGet ms t key).2.2.1, .slice none 0 0, .slice none 0 0, .int .u64 0] 47 (0, 0))) := hide (by
    have p0 : (((w1.setCell ⟨w.heap.size + 1 + 1, 2, none⟩ (.string (mGet ms t key).2.1)).setCell ⟨w.heap.size + 1 + 1, 3, none⟩ (.bool (mGet ms t key).2.2.1)).setCell ⟨w.heap.size + 1 + 1, 0, none⟩ (.int .i64 (mGet ms t key).2.2.2)).heap[w.heap.size + 1]? = some (.cells #[.int .i64 0, .int .i64 0, .string ⟨#[]⟩, .bool false, .slice none 0 0, .slice none 0 0, .int .u64 0] 47 (0, 0)) := (Below.heap_setCell _ _ _ _ (by simp)).trans ((Below.heap_setCell _ _ _ _ (by simp)).trans ((Below.heap_setCell _ _ _ _ (by simp)).trans (HW4.out)))
    have p1 := blk_set2 (j := 0) p0 (.int .i64 (mGet ms t key).2.2.2)
    have p2 := blk_set2 (j := 1) p1 (.int .i64 0)
    have p3 := blk_set2 (j := 2) p2 (.string (mGet ms t key).2.1)
    have p4 := blk_set2 (j := 3) p3 (.bool (mGet ms t key).2.2.1)
    have p5 := blk_set2 (j := 4) p4 (.slice none 0 0)
    have p6 := blk_set2 (j := 5) p5 (.slice none 0 0)
    have p7 := blk_set2 (j := 6) p6 (.int .u64 0)
    simpa using p7)
  have HFE : Hid (Frm (fun i => ¬ X i) w ((((((((((w1.setCell ⟨w.heap.size + 1 + 1, 2, none⟩ (.string (mGet ms t key).2.1)).setCell ⟨w.heap.size + 1 + 1, 3, none⟩ (.bool (mGet ms t key).2.2.1)).setCell ⟨w.heap.size + 1 + 1, 0, none⟩ (.int .i64 (mGet ms t key).2.2.2)).setCell ⟨w.heap.size + 1, 0, none⟩ (.int .i64 (mGet ms t key).2.2.2)).setCell ⟨w.heap.size + 1, 1, none⟩ (.int .i64 0)).setCell ⟨w.heap.size + 1, 2, none⟩ (.string (mGet ms t key).2.1)).setCell ⟨w.heap.size + 1, 3, none⟩ (.bool (mGet ms t key).2.2.1)).setCell ⟨w.heap.size + 1, 4, none⟩ (.slice none 0 0)).setCell ⟨w.heap.size + 1, 5, none⟩ (.slice none 0 0)).setCell ⟨w.heap.size + 1, 6, none⟩ (.int .u64 0)) ∧ Mn X ((((((((((w1.setCell ⟨w.heap.size + 1 + 1, 2, none⟩ (.string (mGet ms t key).2.1)).setCell ⟨w.heap.size + 1 + 1, 3, none⟩ (.bool (mGet ms t key).2.2.1)).setCell ⟨w.heap.size + 1 + 1, 0, none⟩ (.int .i64 (mGet ms t key).2.2.2)).setCell ⟨w.heap.size + 1, 0, none⟩ (.int .i64 (mGet ms t key).2.2.2)).setCell ⟨w.heap.size + 1, 1, none⟩ (.int .i64 0)).setCell ⟨w.heap.size + 1, 2, none⟩ (.string (mGet ms t key).2.1)).setCell ⟨w.heap.size + 1, 3, none⟩ (.bool (mGet ms t key).2.2.1)).setCell ⟨w.heap.size + 1, 4, none⟩ (.slice none 0 0)).setCell ⟨w.heap.size + 1, 5, none⟩ (.slice none 0 0)).setCell ⟨w.heap.size + 1, 6, none⟩ (.int .u64 0)) g (mGet ms t key).1) := hide (by
    have h0 : Frm (fun i => ¬ X i) w w1 := ⟨by rw [HF1.out.os]; exact HB.out.os, by rw [HF1.out.tape]; exact HB.out.tape, by rw [HF1.out.output]; exact HB.out.output, Nat.le_trans HB.out.size HF1.out.size, fun i hi hn => (HF1.out.block i (Nat.lt_of_lt_of_le hi HB.out.size) (fun hq => hq (.inl (Classical.not_not.1 hn)))).trans (HB.out.block i hi)⟩
    have hx5 : w.heap.size ≤ w.heap.size + 1 + 1 ∧ w.heap.size + 1 + 1 < (((w.alloc (.cells #[.int .u8 2, .int .i64 t, .string key, .string to, .string val] 40)).alloc (.cells #[.int .i64 0, .int .i64 0, .string ⟨#[]⟩, .bool false, .slice none 0 0, .slice none 0 0, .int .u64 0] 47)).alloc (.cells #[.int .i64 0, .int .i64 0, .string ⟨#[]⟩, .bool false, .slice none 0 0, .slice none 0 0, .int .u64 0] 47)).heap.size := ⟨by omega, by have := HSV.out; omega⟩
    have hx4 : w.heap.size ≤ w.heap.size + 1 ∧ w.heap.size + 1 < (((w.alloc (.cells #[.int .u8 2, .int .i64 t, .string key, .string to, .string val] 40)).alloc (.cells #[.int .i64 0, .int .i64 0, .string ⟨#[]⟩, .bool false, .slice none 0 0, .slice none 0 0, .int .u64 0] 47)).alloc (.cells #[.int .i64 0, .int .i64 0, .string ⟨#[]⟩, .bool false, .slice none 0 0, .slice none 0 0, .int .u64 0] 47)).heap.size := ⟨by omega, by have := HSV.out; omega⟩
    exact ⟨(Frm.setFar (Frm.setFar (Frm.setFar (Frm.setFar (Frm.setFar (Frm.setFar (Frm.setFar (Frm.setFar (Frm.setFar (Frm.setFar h0 (by simp; omega) _) (by simp; omega) _) (by simp; omega) _) (by simp) _) (by simp) _) (by simp) _) (by simp) _) (by simp) _) (by simp) _) (by simp) _), Mn.mono (Mn.setX (Mn.setX (Mn.setX (Mn.setX (Mn.setX (Mn.setX (Mn.setX (Mn.setX (Mn.setX (Mn.setX HM1.out (HX.out _ hx5) _) (HX.out _ hx5) _) (HX.out _ hx5) _) (HX.out _ hx4) _) (HX.out _ hx4) _) (HX.out _ hx4) _) (HX.out _ hx4) _) (HX.out _ hx4) _) (HX.out _ hx4) _) (HX.out _ hx4) _) (fun i hi => HX0.out i hi)⟩)
  clear HM1 HF1 HV4 HV5 HW4 HW5 HM HB HSV
  go_wp2
  refine bodyPost_ret (results_cell_row (P := Tryz.prog) (p := 4) (ty := 47) rfl _ _ _ 47 _ (0, 0) _ rfl HT.out Tryz.underlying47 rfl (by kernel_rfl)) rfl ?_
  exact ⟨rfl, HFE.out.2, HFE.out.1⟩
set_option maxHeartbeats 4000000 in
theorem do_put (X : Nat → Prop) (w : World) (g : Nat) (ms : Mg) (h : Mn X w g ms) (t : Int) (ht : -9223372036854775808 ≤ t ∧ t ≤ 9223372036854775807) (key to val : ByteArray) :
    Calls Tryz.prog 19 #[.pointer (some ⟨g, 0, none⟩), .agg #[.int .u8 4, .int .i64 t, .string key, .string to, .string val]] w fun e w' => e = .returned (.agg #[.int .i64 (mWrite ms t ⟨key, val, false⟩).2, .int .i64 0, .string ⟨#[]⟩, .bool false, .slice none 0 0, .slice none 0 0, .int .u64 0]) ∧ Mn X w' g (mWrite ms t ⟨key, val, false⟩).1 ∧ Frm (fun i => ¬ X i) w w' := by
  have HB : Hid (Below w.heap.size w (((w.alloc (.cells #[.int .u8 4, .int .i64 t, .string key, .string to, .string val] 40)).alloc (.cells #[.int .i64 0, .int .i64 0, .string ⟨#[]⟩, .bool false, .slice none 0 0, .slice none 0 0, .int .u64 0] 47)).alloc (.cells #[.int .i64 0, .int .i64 0, .string ⟨#[]⟩, .bool false, .slice none 0 0, .slice none 0 0, .int .u64 0] 47))) := hide ((((Below.refl _ w).alloc (Nat.le_refl _) _).alloc (by simp) _).alloc (by simp; omega) _)
  have HM := hide (h.news HB.out)
  have HC := hide (mn_put _ _ g ms HM.out t ht key val)
  have hsz1 : (w.alloc (.cells #[.int .u8 4, .int .i64 t, .string key, .string to, .string val] 40)).heap.size = w.heap.size + 1 := World.size_alloc _ _
  have hsz2 : ((w.alloc (.cells #[.int .u8 4, .int .i64 t, .string key, .string to, .string val] 40)).alloc (.cells #[.int .i64 0, .int .i64 0, .string ⟨#[]⟩, .bool false, .slice none 0 0, .slice none 0 0, .int .u64 0] 47)).heap.size = w.heap.size + 1 + 1 := by rw [World.size_alloc, hsz1]
  have HSV : Hid ((((w.alloc (.cells #[.int .u8 4, .int .i64 t, .string key, .string to, .string val] 40)).alloc (.cells #[.int .i64 0, .int .i64 0, .string ⟨#[]⟩, .bool false, .slice none 0 0, .slice none 0 0, .int .u64 0] 47)).alloc (.cells #[.int .i64 0, .int .i64 0, .string ⟨#[]⟩, .bool false, .slice none 0 0, .slice none 0 0, .int .u64 0] 47)).heap.size = w.heap.size + 1 + 1 + 1) := hide (by rw [World.size_alloc, hsz2])
  have HV4 : Hid ((((w.alloc (.cells #[.int .u8 4, .int .i64 t, .string key, .string to, .string val] 40)).alloc (.cells #[.int .i64 0, .int .i64 0, .string ⟨#[]⟩, .bool false, .slice none 0 0, .slice none 0 0, .int .u64 0] 47)).alloc (.cells #[.int .i64 0, .int .i64 0, .string ⟨#[]⟩, .bool false, .slice none 0 0, .slice none 0 0, .int .u64 0] 47)).heap[w.heap.size + 1]? = some (.cells #[.int .i64 0, .int .i64 0, .string ⟨#[]⟩, .bool false, .slice none 0 0, .slice none 0 0, .int .u64 0] 47 (0, 0))) := hide ((Below.heap_alloc _ _ _ (by rw [hsz2]; omega)).trans (by have := heap_alloc_new (w.alloc (.cells #[.int .u8 4, .int .i64 t, .string key, .string to, .string val] 40)) (.cells #[.int .i64 0, .int .i64 0, .string ⟨#[]⟩, .bool false, .slice none 0 0, .slice none 0 0, .int .u64 0] 47); rw [hsz1] at this; exact this))
  have HV5 : Hid ((((w.alloc (.cells #[.int .u8 4, .int .i64 t, .string key, .string to, .string val] 40)).alloc (.cells #[.int .i64 0, .int .i64 0, .string ⟨#[]⟩, .bool false, .slice none 0 0, .slice none 0 0, .int .u64 0] 47)).alloc (.cells #[.int .i64 0, .int .i64 0, .string ⟨#[]⟩, .bool false, .slice none 0 0, .slice none 0 0, .int .u64 0] 47)).heap[w.heap.size + 1 + 1]? = some (.cells #[.int .i64 0, .int .i64 0, .string ⟨#[]⟩, .bool false, .slice none 0 0, .slice none 0 0, .int .u64 0] 47 (0, 0))) := hide (by have := heap_alloc_new ((w.alloc (.cells #[.int .u8 4, .int .i64 t, .string key, .string to, .string val] 40)).alloc (.cells #[.int .i64 0, .int .i64 0, .string ⟨#[]⟩, .bool false, .slice none 0 0, .slice none 0 0, .int .u64 0] 47)) (.cells #[.int .i64 0, .int .i64 0, .string ⟨#[]⟩, .bool false, .slice none 0 0, .slice none 0 0, .int .u64 0] 47); rw [hsz2] at this; exact this)
  clear h ht hsz1 hsz2
  go_enter Tryz.func19, Tryz.ntmps19
  go_wp2_with fail
  refine HC.out.mono ?_
  rintro e w1 ⟨rfl, hM, hF⟩
  have HM1 := hide hM
  have HF1 := hide hF
  have HW4 : Hid (w1.heap[w.heap.size + 1]? = some (.cells #[.int .i64 0, .int .i64 0, .string ⟨#[]⟩, .bool false, .slice none 0 0, .slice none 0 0, .int .u64 0] 47 (0, 0))) := hide ((hF.block _ (heap_lt HV4.out) (fun hn => hn (.inr ⟨by omega, by have := HSV.out; omega⟩))).trans HV4.out)
  have HW5 : Hid (w1.heap[w.heap.size + 1 + 1]? = some (.cells #[.int .i64 0, .int .i64 0, .string ⟨#[]⟩, .bool false, .slice none 0 0, .slice none 0 0, .int .u64 0] 47 (0, 0))) := hide ((hF.block _ (heap_lt HV5.out) (fun hn => hn (.inr ⟨by omega, by have := HSV.out; omega⟩))).trans HV5.out)
  clear hM hF HC
  have HX : Hid (∀ i, (w.heap.size ≤ i ∧ i < (((w.alloc (.cells #[.int .u8 4, .int .i64 t, .string key, .string to, .string val] 40)).alloc (.cells #[.int .i64 0, .int .i64 0, .string ⟨#[]⟩, .bool false, .slice none 0 0, .slice none 0 0, .int .u64 0] 47)).alloc (.cells #[.int .i64 0, .int .i64 0, .string ⟨#[]⟩, .bool false, .slice none 0 0, .slice none 0 0, .int .u64 0] 47)).heap.size) → (X i ∨ (w.heap.size ≤ i ∧ i < (((w.alloc (.cells #[.int .u8 4, .int .i64 t, .string key, .string to, .string val] 40)).alloc (.cells #[.int .i64 0, .int .i64 0, .string ⟨#[]⟩, .bool false, .slice none 0 0, .slice none 0 0, .int .u64 0] 47)).alloc (.cells #[.int .i64 0, .int .i64 0, .string ⟨#[]⟩, .bool false, .slice none 0 0, .slice none 0 0, .int .u64 0] 47)).heap.size))) := hide (fun i hi => .inr hi)
  have HX0 : Hid (∀ i, X i → (X i ∨ (w.heap.size ≤ i ∧ i < (((w.alloc (.cells #[.int .u8 4, .int .i64 t, .string key, .string to, .string val] 40)).alloc (.cells #[.int .i64 0, .int .i64 0, .string ⟨#[]⟩, .bool false, .slice none 0 0, .slice none 0 0, .int .u64 0] 47)).alloc (.cells #[.int .i64 0, .int .i64 0, .string ⟨#[]⟩, .bool false, .slice none 0 0, .slice none 0 0, .int .u64 0] 47)).heap.size))) := hide (fun i hi => .inl hi)
  have a0 : w1.cell? ⟨w.heap.size + 1 + 1, 0, none⟩ = some (.int .i64 0) := cell_blk HW5.out rfl
  have b0 : w1.cell? ⟨w.heap.size + 1, 0, none⟩ = some (.int .i64 0) := cell_blk HW4.out rfl
  have g0 : w1.frozen? ⟨w.heap.size + 1, 0, none⟩ = false := frz HW4.out 0
  have a1 : w1.cell? ⟨w.heap.size + 1 + 1, 1, none⟩ = some (.int .i64 0) := cell_blk HW5.out rfl
  have b1 : w1.cell? ⟨w.heap.size + 1, 1, none⟩ = some (.int .i64 0) := cell_blk HW4.out rfl
  have g1 : w1.frozen? ⟨w.heap.size + 1, 1, none⟩ = false := frz HW4.out 1
  have a2 : w1.cell? ⟨w.heap.size + 1 + 1, 2, none⟩ = some (.string ⟨#[]⟩) := cell_blk HW5.out rfl
  have b2 : w1.cell? ⟨w.heap.size + 1, 2, none⟩ = some (.string ⟨#[]⟩) := cell_blk HW4.out rfl
  have g2 : w1.frozen? ⟨w.heap.size + 1, 2, none⟩ = false := frz HW4.out 2
  have a3 : w1.cell? ⟨w.heap.size + 1 + 1, 3, none⟩ = some (.bool false) := cell_blk HW5.out rfl
  have b3 : w1.cell? ⟨w.heap.size + 1, 3, none⟩ = some (.bool false) := cell_blk HW4.out rfl
  have g3 : w1.frozen? ⟨w.heap.size + 1, 3, none⟩ = false := frz HW4.out 3
  have a4 : w1.cell? ⟨w.heap.size + 1 + 1, 4, none⟩ = some (.slice none 0 0) := cell_blk HW5.out rfl
  have b4 : w1.cell? ⟨w.heap.size + 1, 4, none⟩ = some (.slice none 0 0) := cell_blk HW4.out rfl
  have g4 : w1.frozen? ⟨w.heap.size + 1, 4, none⟩ = false := frz HW4.out 4
  have a5 : w1.cell? ⟨w.heap.size + 1 + 1, 5, none⟩ = some (.slice none 0 0) := cell_blk HW5.out rfl
  have b5 : w1.cell? ⟨w.heap.size + 1, 5, none⟩ = some (.slice none 0 0) := cell_blk HW4.out rfl
  have g5 : w1.frozen? ⟨w.heap.size + 1, 5, none⟩ = false := frz HW4.out 5
  have a6 : w1.cell? ⟨w.heap.size + 1 + 1, 6, none⟩ = some (.int .u64 0) := cell_blk HW5.out rfl
  have b6 : w1.cell? ⟨w.heap.size + 1, 6, none⟩ = some (.int .u64 0) := cell_blk HW4.out rfl
  have g6 : w1.frozen? ⟨w.heap.size + 1, 6, none⟩ = false := frz HW4.out 6
  have f0 : w1.frozen? ⟨w.heap.size + 1 + 1, 0, none⟩ = false := frz HW5.out 0
  have HT : Hid (((((((((w1.setCell ⟨w.heap.size + 1 + 1, 0, none⟩ (.int .i64 (mWrite ms t ⟨key, val, false⟩).2)).setCell ⟨w.heap.size + 1, 0, none⟩ (.int .i64 (mWrite ms t ⟨key, val, false⟩).2)).setCell ⟨w.heap.size + 1, 1, none⟩ (.int .i64 0)).setCell ⟨w.heap.size + 1, 2, none⟩ (.string ⟨#[]⟩)).setCell ⟨w.heap.size + 1, 3, none⟩ (.bool false)).setCell ⟨w.heap.size + 1, 4, none⟩ (.slice none 0 0)).setCell ⟨w.heap.size + 1, 5, none⟩ (.slice none 0 0)).setCell ⟨w.heap.size + 1, 6, none⟩ (.int .u64 0)).heap[w.heap.size + 1]? = some (.cells #[.int .i64 (mWrite ms t ⟨key, val, false⟩).2, .int .i64 0, .string ⟨#[]⟩, .bool false, .slice none 0 0, .slice none 0 0, .int .u64 0] 47 (0, 0))) := hide (by
    have p0 : (w1.setCell ⟨w.heap.size + 1 + 1, 0, none⟩ (.int .i64 (mWrite ms t ⟨key, val, false⟩).2)).heap[w.heap.size + 1]? = some (.cells #[.int .i64 0, .int .i64 0, .string ⟨#[]⟩, .bool false, .slice none 0 0, .slice none 0 0, .int .u64 0] 47 (0, 0)) := (Below.heap_setCell _ _ _ _ (by simp)).trans (HW4.out)
    have p1 := blk_set2 (j := 0) p0 (.int .i64 (mWrite ms t ⟨key, val, false⟩).2)
    have p2 := blk_set2 (j := 1) p1 (.int .i64 0)
    have p3 := blk_set2 (j := 2) p2 (.string ⟨#[]⟩)
    have p4 := blk_set2 (j := 3) p3 (.bool false)
    have p5 := blk_set2 (j := 4) p4 (.slice none 0 0)
    have p6 := blk_set2 (j := 5) p5 (.slice none 0 0)
    have p7 := blk_set2 (j := 6) p6 (.int .u64 0)
    simpa using p7)
  have HFE : Hid (Frm (fun i => ¬ X i) w ((((((((w1.setCell ⟨w.heap.size + 1 + 1, 0, none⟩ (.int .i64 (mWrite ms t ⟨key, val, false⟩).2)).setCell ⟨w.heap.size + 1, 0, none⟩ (.int .i64 (mWrite ms t ⟨key, val, false⟩).2)).setCell ⟨w.heap.size + 1, 1, none⟩ (.int .i64 0)).setCell ⟨w.heap.size + 1, 2, none⟩ (.string ⟨#[]⟩)).setCell ⟨w.heap.size + 1, 3, none⟩ (.bool false)).setCell ⟨w.heap.size + 1, 4, none⟩ (.slice none 0 0)).setCell ⟨w.heap.size + 1, 5, none⟩ (.slice none 0 0)).setCell ⟨w.heap.size + 1, 6, none⟩ (.int .u64 0)) ∧ Mn X ((((((((w1.setCell ⟨w.heap.size + 1 + 1, 0, none⟩ (.int .i64 (mWrite ms t ⟨key, val, false⟩).2)).setCell ⟨w.heap.size + 1, 0, none⟩ (.int .i64 (mWrite ms t ⟨key, val, false⟩).2)).setCell ⟨w.heap.size + 1, 1, none⟩ (.int .i64 0)).setCell ⟨w.heap.size + 1, 2, none⟩ (.string ⟨#[]⟩)).setCell ⟨w.heap.size + 1, 3, none⟩ (.bool false)).setCell ⟨w.heap.size + 1, 4, none⟩ (.slice none 0 0)).setCell ⟨w.heap.size + 1, 5, none⟩ (.slice none 0 0)).setCell ⟨w.heap.size + 1, 6, none⟩ (.int .u64 0)) g (mWrite ms t ⟨key, val, false⟩).1) := hide (by
    have h0 : Frm (fun i => ¬ X i) w w1 := ⟨by rw [HF1.out.os]; exact HB.out.os, by rw [HF1.out.tape]; exact HB.out.tape, by rw [HF1.out.output]; exact HB.out.output, Nat.le_trans HB.out.size HF1.out.size, fun i hi hn => (HF1.out.block i (Nat.lt_of_lt_of_le hi HB.out.size) (fun hq => hq (.inl (Classical.not_not.1 hn)))).trans (HB.out.block i hi)⟩
    have hx5 : w.heap.size ≤ w.heap.size + 1 + 1 ∧ w.heap.size + 1 + 1 < (((w.alloc (.cells #[.int .u8 4, .int .i64 t, .string key, .string to, .string val] 40)).alloc (.cells #[.int .i64 0, .int .i64 0, .string ⟨#[]⟩, .bool false, .slice none 0 0, .slice none 0 0, .int .u64 0] 47)).alloc (.cells #[.int .i64 0, .int .i64 0, .string ⟨#[]⟩, .bool false, .slice none 0 0, .slice none 0 0, .int .u64 0] 47)).heap.size := ⟨by omega, by have := HSV.out; omega⟩
    have hx4 : w.heap.size ≤ w.heap.size + 1 ∧ w.heap.size + 1 < (((w.alloc (.cells #[.int .u8 4, .int .i64 t, .string key, .string to, .string val] 40)).alloc (.cells #[.int .i64 0, .int .i64 0, .string ⟨#[]⟩, .bool false, .slice none 0 0, .slice none 0 0, .int .u64 0] 47)).alloc (.cells #[.int .i64 0, .int .i64 0, .string ⟨#[]⟩, .bool false, .slice none 0 0, .slice none 0 0, .int .u64 0] 47)).heap.size := ⟨by omega, by have := HSV.out; omega⟩
    exact ⟨(Frm.setFar (Frm.setFar (Frm.setFar (Frm.setFar (Frm.setFar (Frm.setFar (Frm.setFar (Frm.setFar h0 (by simp; omega) _) (by simp) _) (by simp) _) (by simp) _) (by simp) _) (by simp) _) (by simp) _) (by simp) _), Mn.mono (Mn.setX (Mn.setX (Mn.setX (Mn.setX (Mn.setX (Mn.setX (Mn.setX (Mn.setX HM1.out (HX.out _ hx5) _) (HX.out _ hx4) _) (HX.out _ hx4) _) (HX.out _ hx4) _) (HX.out _ hx4) _) (HX.out _ hx4) _) (HX.out _ hx4) _) (HX.out _ hx4) _) (fun i hi => HX0.out i hi)⟩)
  clear HM1 HF1 HV4 HV5 HW4 HW5 HM HB HSV
  go_wp2
  refine bodyPost_ret (results_cell_row (P := Tryz.prog) (p := 4) (ty := 47) rfl _ _ _ 47 _ (0, 0) _ rfl HT.out Tryz.underlying47 rfl (by kernel_rfl)) rfl ?_
  exact ⟨rfl, HFE.out.2, HFE.out.1⟩
set_option maxHeartbeats 4000000 in
theorem do_delete (X : Nat → Prop) (w : World) (g : Nat) (ms : Mg) (h : Mn X w g ms) (t : Int) (ht : -9223372036854775808 ≤ t ∧ t ≤ 9223372036854775807) (key to val : ByteArray) :
    Calls Tryz.prog 19 #[.pointer (some ⟨g, 0, none⟩), .agg #[.int .u8 5, .int .i64 t, .string key, .string to, .string val]] w fun e w' => e = .returned (.agg #[.int .i64 (mWrite ms t ⟨key, ⟨#[]⟩, true⟩).2, .int .i64 0, .string ⟨#[]⟩, .bool false, .slice none 0 0, .slice none 0 0, .int .u64 0]) ∧ Mn X w' g (mWrite ms t ⟨key, ⟨#[]⟩, true⟩).1 ∧ Frm (fun i => ¬ X i) w w' := by
  have HB : Hid (Below w.heap.size w (((w.alloc (.cells #[.int .u8 5, .int .i64 t, .string key, .string to, .string val] 40)).alloc (.cells #[.int .i64 0, .int .i64 0, .string ⟨#[]⟩, .bool false, .slice none 0 0, .slice none 0 0, .int .u64 0] 47)).alloc (.cells #[.int .i64 0, .int .i64 0, .string ⟨#[]⟩, .bool false, .slice none 0 0, .slice none 0 0, .int .u64 0] 47))) := hide ((((Below.refl _ w).alloc (Nat.le_refl _) _).alloc (by simp) _).alloc (by simp; omega) _)
  have HM := hide (h.news HB.out)
  have HC := hide (mn_delete _ _ g ms HM.out t ht key)
  have hsz1 : (w.alloc (.cells #[.int .u8 5, .int .i64 t, .string key, .string to, .string val] 40)).heap.size = w.heap.size + 1 := World.size_alloc _ _
  have hsz2 : ((w.alloc (.cells #[.int .u8 5, .int .i64 t, .string key, .string to, .string val] 40)).alloc (.cells #[.int .i64 0, .int .i64 0, .string ⟨#[]⟩, .bool false, .slice none 0 0, .slice none 0 0, .int .u64 0] 47)).heap.size = w.heap.size + 1 + 1 := by rw [World.size_alloc, hsz1]
  have HSV : Hid ((((w.alloc (.cells #[.int .u8 5, .int .i64 t, .string key, .string to, .string val] 40)).alloc (.cells #[.int .i64 0, .int .i64 0, .string ⟨#[]⟩, .bool false, .slice none 0 0, .slice none 0 0, .int .u64 0] 47)).alloc (.cells #[.int .i64 0, .int .i64 0, .string ⟨#[]⟩, .bool false, .slice none 0 0, .slice none 0 0, .int .u64 0] 47)).heap.size = w.heap.size + 1 + 1 + 1) := hide (by rw [World.size_alloc, hsz2])
  have HV4 : Hid ((((w.alloc (.cells #[.int .u8 5, .int .i64 t, .string key, .string to, .string val] 40)).alloc (.cells #[.int .i64 0, .int .i64 0, .string ⟨#[]⟩, .bool false, .slice none 0 0, .slice none 0 0, .int .u64 0] 47)).alloc (.cells #[.int .i64 0, .int .i64 0, .string ⟨#[]⟩, .bool false, .slice none 0 0, .slice none 0 0, .int .u64 0] 47)).heap[w.heap.size + 1]? = some (.cells #[.int .i64 0, .int .i64 0, .string ⟨#[]⟩, .bool false, .slice none 0 0, .slice none 0 0, .int .u64 0] 47 (0, 0))) := hide ((Below.heap_alloc _ _ _ (by rw [hsz2]; omega)).trans (by have := heap_alloc_new (w.alloc (.cells #[.int .u8 5, .int .i64 t, .string key, .string to, .string val] 40)) (.cells #[.int .i64 0, .int .i64 0, .string ⟨#[]⟩, .bool false, .slice none 0 0, .slice none 0 0, .int .u64 0] 47); rw [hsz1] at this; exact this))
  have HV5 : Hid ((((w.alloc (.cells #[.int .u8 5, .int .i64 t, .string key, .string to, .string val] 40)).alloc (.cells #[.int .i64 0, .int .i64 0, .string ⟨#[]⟩, .bool false, .slice none 0 0, .slice none 0 0, .int .u64 0] 47)).alloc (.cells #[.int .i64 0, .int .i64 0, .string ⟨#[]⟩, .bool false, .slice none 0 0, .slice none 0 0, .int .u64 0] 47)).heap[w.heap.size + 1 + 1]? = some (.cells #[.int .i64 0, .int .i64 0, .string ⟨#[]⟩, .bool false, .slice none 0 0, .slice none 0 0, .int .u64 0] 47 (0, 0))) := hide (by have := heap_alloc_new ((w.alloc (.cells #[.int .u8 5, .int .i64 t, .string key, .string to, .string val] 40)).alloc (.cells #[.int .i64 0, .int .i64 0, .string ⟨#[]⟩, .bool false, .slice none 0 0, .slice none 0 0, .int .u64 0] 47)) (.cells #[.int .i64 0, .int .i64 0, .string ⟨#[]⟩, .bool false, .slice none 0 0, .slice none 0 0, .int .u64 0] 47); rw [hsz2] at this; exact this)
  clear h ht hsz1 hsz2
  go_enter Tryz.func19, Tryz.ntmps19
  go_wp2_with fail
  refine HC.out.mono ?_
  rintro e w1 ⟨rfl, hM, hF⟩
  have HM1 := hide hM
  have HF1 := hide hF
  have HW4 : Hid (w1.heap[w.heap.size + 1]? = some (.cells #[.int .i64 0, .int .i64 0, .string ⟨#[]⟩, .bool false, .slice none 0 0, .slice none 0 0, .int .u64 0] 47 (0, 0))) := hide ((hF.block _ (heap_lt HV4.out) (fun hn => hn (.inr ⟨by omega, by have := HSV.out; omega⟩))).trans HV4.out)
  have HW5 : Hid (w1.heap[w.heap.size + 1 + 1]? = some (.cells #[.int .i64 0, .int .i64 0, .string ⟨#[]⟩, .bool false, .slice none 0 0, .slice none 0 0, .int .u64 0] 47 (0, 0))) := hide ((hF.block _ (heap_lt HV5.out) (fun hn => hn (.inr ⟨by omega, by have := HSV.out; omega⟩))).trans HV5.out)
  clear hM hF HC
  have HX : Hid (∀ i, (w.heap.size ≤ i ∧ i < (((w.alloc (.cells #[.int .u8 5, .int .i64 t, .string key, .string to, .string val] 40)).alloc (.cells #[.int .i64 0, .int .i64 0, .string ⟨#[]⟩, .bool false, .slice none 0 0, .slice none 0 0, .int .u64 0] 47)).alloc (.cells #[.int .i64 0, .int .i64 0, .string ⟨#[]⟩, .bool false, .slice none 0 0, .slice none 0 0, .int .u64 0] 47)).heap.size) → (X i ∨ (w.heap.size ≤ i ∧ i < (((w.alloc (.cells #[.int .u8 5, .int .i64 t, .string key, .string to, .string val] 40)).alloc (.cells #[.int .i64 0, .int .i64 0, .string ⟨#[]⟩, .bool false, .slice none 0 0, .slice none 0 0, .int .u64 0] 47)).alloc (.cells #[.int .i64 0, .int .i64 0, .string ⟨#[]⟩, .bool false, .slice none 0 0, .slice none 0 0, .int .u64 0] 47)).heap.size))) := hide (fun i hi => .inr hi)
  have HX0 : Hid (∀ i, X i → (X i ∨ (w.heap.size ≤ i ∧ i < (((w.alloc (.cells #[.int .u8 5, .int .i64 t, .string key, .string to, .string val] 40)).alloc (.cells #[.int .i64 0, .int .i64 0, .string ⟨#[]⟩, .bool false, .slice none 0 0, .slice none 0 0, .int .u64 0] 47)).alloc (.cells #[.int .i64 0, .int .i64 0, .string ⟨#[]⟩, .bool false, .slice none 0 0, .slice none 0 0, .int .u64 0] 47)).heap.size))) := hide (fun i hi => .inl hi)
  have a0 : w1.cell? ⟨w.heap.size + 1 + 1, 0, none⟩ = some (.int .i64 0) := cell_blk HW5.out rfl
  have b0 : w1.cell? ⟨w.heap.size + 1, 0, none⟩ = some (.int .i64 0) := cell_blk HW4.out rfl
  have g0 : w1.frozen? ⟨w.heap.size + 1, 0, none⟩ = false := frz HW4.out 0
  have a1 : w1.cell? ⟨w.heap.size + 1 + 1, 1, none⟩ = some (.int .i64 0) := cell_blk HW5.out rfl
  have b1 : w1.cell? ⟨w.heap.size + 1, 1, none⟩ = some (.int .i64 0) := cell_blk HW4.out rfl
  have g1 : w1.frozen? ⟨w.heap.size + 1, 1, none⟩ = false := frz HW4.out 1
  have a2 : w1.cell? ⟨w.heap.size + 1 + 1, 2, none⟩ = some (.string ⟨#[]⟩) := cell_blk HW5.out rfl
  have b2 : w1.cell? ⟨w.heap.size + 1, 2, none⟩ = some (.string ⟨#[]⟩) := cell_blk HW4.out rfl
  have g2 : w1.frozen? ⟨w.heap.size + 1, 2, none⟩ = false := frz HW4.out 2
  have a3 : w1.cell? ⟨w.heap.size + 1 + 1, 3, none⟩ = some (.bool false) := cell_blk HW5.out rfl
  have b3 : w1.cell? ⟨w.heap.size + 1, 3, none⟩ = some (.bool false) := cell_blk HW4.out rfl
  have g3 : w1.frozen? ⟨w.heap.size + 1, 3, none⟩ = false := frz HW4.out 3
  have a4 : w1.cell? ⟨w.heap.size + 1 + 1, 4, none⟩ = some (.slice none 0 0) := cell_blk HW5.out rfl
  have b4 : w1.cell? ⟨w.heap.size + 1, 4, none⟩ = some (.slice none 0 0) := cell_blk HW4.out rfl
  have g4 : w1.frozen? ⟨w.heap.size + 1, 4, none⟩ = false := frz HW4.out 4
  have a5 : w1.cell? ⟨w.heap.size + 1 + 1, 5, none⟩ = some (.slice none 0 0) := cell_blk HW5.out rfl
  have b5 : w1.cell? ⟨w.heap.size + 1, 5, none⟩ = some (.slice none 0 0) := cell_blk HW4.out rfl
  have g5 : w1.frozen? ⟨w.heap.size + 1, 5, none⟩ = false := frz HW4.out 5
  have a6 : w1.cell? ⟨w.heap.size + 1 + 1, 6, none⟩ = some (.int .u64 0) := cell_blk HW5.out rfl
  have b6 : w1.cell? ⟨w.heap.size + 1, 6, none⟩ = some (.int .u64 0) := cell_blk HW4.out rfl
  have g6 : w1.frozen? ⟨w.heap.size + 1, 6, none⟩ = false := frz HW4.out 6
  have f0 : w1.frozen? ⟨w.heap.size + 1 + 1, 0, none⟩ = false := frz HW5.out 0
  have HT : Hid (((((((((w1.setCell ⟨w.heap.size + 1 + 1, 0, none⟩ (.int .i64 (mWrite ms t ⟨key, ⟨#[]⟩, true⟩).2)).setCell ⟨w.heap.size + 1, 0, none⟩ (.int .i64 (mWrite ms t ⟨key, ⟨#[]⟩, true⟩).2)).setCell ⟨w.heap.size + 1, 1, none⟩ (.int .i64 0)).setCell ⟨w.heap.size + 1, 2, none⟩ (.string ⟨#[]⟩)).setCell ⟨w.heap.size + 1, 3, none⟩ (.bool false)).setCell ⟨w.heap.size + 1, 4, none⟩ (.slice none 0 0)).setCell ⟨w.heap.size + 1, 5, none⟩ (.slice none 0 0)).setCell ⟨w.heap.size + 1, 6, none⟩ (.int .u64 0)).heap[w.heap.size + 1]? = some (.cells #[.int .i64 (mWrite ms t ⟨key, ⟨#[]⟩, true⟩).2, .int .i64 0, .string ⟨#[]⟩, .bool false, .slice none 0 0, .slice none 0 0, .int .u64 0] 47 (0, 0))) := hide (by
    have p0 : (w1.setCell ⟨w.heap.size + 1 + 1, 0, none⟩ (.int .i64 (mWrite ms t ⟨key, ⟨#[]⟩, true⟩).2)).heap[w.heap.size + 1]? = some (.cells #[.int .i64 0, .int .i64 0, .string ⟨#[]⟩, .bool false, .slice none 0 0, .slice none 0 0, .int .u64 0] 47 (0, 0)) := (Below.heap_setCell _ _ _ _ (by simp)).trans (HW4.out)
    have p1 := blk_set2 (j := 0) p0 (.int .i64 (mWrite ms t ⟨key, ⟨#[]⟩, true⟩).2)
    have p2 := blk_set2 (j := 1) p1 (.int .i64 0)
    have p3 := blk_set2 (j := 2) p2 (.string ⟨#[]⟩)
    have p4 := blk_set2 (j := 3) p3 (.bool false)
    have p5 := blk_set2 (j := 4) p4 (.slice none 0 0)
    have p6 := blk_set2 (j := 5) p5 (.slice none 0 0)
    have p7 := blk_set2 (j := 6) p6 (.int .u64 0)
    simpa using p7)
  have HFE : Hid (Frm (fun i => ¬ X i) w ((((((((w1.setCell ⟨w.heap.size + 1 + 1, 0, none⟩ (.int .i64 (mWrite ms t ⟨key, ⟨#[]⟩, true⟩).2)).setCell ⟨w.heap.size + 1, 0, none⟩ (.int .i64 (mWrite ms t ⟨key, ⟨#[]⟩, true⟩).2)).setCell ⟨w.heap.size + 1, 1, none⟩ (.int .i64 0)).setCell ⟨w.heap.size + 1, 2, none⟩ (.string ⟨#[]⟩)).setCell ⟨w.heap.size + 1, 3, none⟩ (.bool false)).setCell ⟨w.heap.size + 1, 4, none⟩ (.slice none 0 0)).setCell ⟨w.heap.size + 1, 5, none⟩ (.slice none 0 0)).setCell ⟨w.heap.size + 1, 6, none⟩ (.int .u64 0)) ∧ Mn X ((((((((w1.setCell ⟨w.heap.size + 1 + 1, 0, none⟩ (.int .i64 (mWrite ms t ⟨key, ⟨#[]⟩, true⟩).2)).setCell ⟨w.heap.size + 1, 0, none⟩ (.int .i64 (mWrite ms t ⟨key, ⟨#[]⟩, true⟩).2)).setCell ⟨w.heap.size + 1, 1, none⟩ (.int .i64 0)).setCell ⟨w.heap.size + 1, 2, none⟩ (.string ⟨#[]⟩)).setCell ⟨w.heap.size + 1, 3, none⟩ (.bool false)).setCell ⟨w.heap.size + 1, 4, none⟩ (.slice none 0 0)).setCell ⟨w.heap.size + 1, 5, none⟩ (.slice none 0 0)).setCell ⟨w.heap.size + 1, 6, none⟩ (.int .u64 0)) g (mWrite ms t ⟨key, ⟨#[]⟩, true⟩).1) := hide (by
    have h0 : Frm (fun i => ¬ X i) w w1 := ⟨by rw [HF1.out.os]; exact HB.out.os, by rw [HF1.out.tape]; exact HB.out.tape, by rw [HF1.out.output]; exact HB.out.output, Nat.le_trans HB.out.size HF1.out.size, fun i hi hn => (HF1.out.block i (Nat.lt_of_lt_of_le hi HB.out.size) (fun hq => hq (.inl (Classical.not_not.1 hn)))).trans (HB.out.block i hi)⟩
    have hx5 : w.heap.size ≤ w.heap.size + 1 + 1 ∧ w.heap.size + 1 + 1 < (((w.alloc (.cells #[.int .u8 5, .int .i64 t, .string key, .string to, .string val] 40)).alloc (.cells #[.int .i64 0, .int .i64 0, .string ⟨#[]⟩, .bool false, .slice none 0 0, .slice none 0 0, .int .u64 0] 47)).alloc (.cells #[.int .i64 0, .int .i64 0, .string ⟨#[]⟩, .bool false, .slice none 0 0, .slice none 0 0, .int .u64 0] 47)).heap.size := ⟨by omega, by have := HSV.out; omega⟩
    have hx4 : w.heap.size ≤ w.heap.size + 1 ∧ w.heap.size + 1 < (((w.alloc (.cells #[.int .u8 5, .int .i64 t, .string key, .string to, .string val] 40)).alloc (.cells #[.int .i64 0, .int .i64 0, .string ⟨#[]⟩, .bool false, .slice none 0 0, .slice none 0 0, .int .u64 0] 47)).alloc (.cells #[.int .i64 0, .int .i64 0, .string ⟨#[]⟩, .bool false, .slice none 0 0, .slice none 0 0, .int .u64 0] 47)).heap.size := ⟨by omega, by have := HSV.out; omega⟩
    exact ⟨(Frm.setFar (Frm.setFar (Frm.setFar (Frm.setFar (Frm.setFar (Frm.setFar (Frm.setFar (Frm.setFar h0 (by simp; omega) _) (by simp) _) (by simp) _) (by simp) _) (by simp) _) (by simp) _) (by simp) _) (by simp) _), Mn.mono (Mn.setX (Mn.setX (Mn.setX (Mn.setX (Mn.setX (Mn.setX (Mn.setX (Mn.setX HM1.out (HX.out _ hx5) _) (HX.out _ hx4) _) (HX.out _ hx4) _) (HX.out _ hx4) _) (HX.out _ hx4) _) (HX.out _ hx4) _) (HX.out _ hx4) _) (HX.out _ hx4) _) (fun i hi => HX0.out i hi)⟩)
  clear HM1 HF1 HV4 HV5 HW4 HW5 HM HB HSV
  go_wp2
  refine bodyPost_ret (results_cell_row (P := Tryz.prog) (p := 4) (ty := 47) rfl _ _ _ 47 _ (0, 0) _ rfl HT.out Tryz.underlying47 rfl (by kernel_rfl)) rfl ?_
  exact ⟨rfl, HFE.out.2, HFE.out.1⟩
end Go.Proofs.YtlkmcbelmldleaaGreat

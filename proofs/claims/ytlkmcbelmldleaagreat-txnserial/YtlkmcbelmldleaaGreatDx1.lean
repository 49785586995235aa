/- Tz Aa Jp Sc Sd Se -/
import Derived.Test.YtlkmcbelmldleaaGreatCx6
import Derived.Test.YtlkmcbelmldleaaGreatVYb
import Derived.Shelf.SlGeneric
import Derived.Shelf.SlSortCmp.WholeK
import Derived.Shelf.SlSortCmp.NoneTotal
import Derived.Shelf.SlicesQ.IndexFunc
import Derived.Shelf.SlicesE.Clone
import Derived.Shelf.Small.Strs
import Derived.Ground.SlsfProg
import Derived.Ground.SlgfProg
import Derived.Ground.SlgnProg
import Derived.Ground.NamesProg
import Derived.Test.YtlkmcbelmldleaaGreatRows
import Derived.Test.YtlkmcbelmldleaaGreatCx3
import Derived.Test.YtlkmcbelmldleaaGreatCx5
import Derived.Test.YtlkmcbelmldleaaGreatVYe
import Derived.Test.YtlkmcbelmldleaaGreatVZd
/- Do, kind by kind -/
namespace Go.Proofs.YtlkmcbelmldleaaGreat
open Go.RowKit
open Go.Maps (Keyed has size)
set_option maxRecDepth 40000
theorem Frm.setFar {S : Nat → Prop} {a b : World} (h : Frm S a b) {ad : Addr} (hg : a.heap.size ≤ ad.block) (v : Value) : Frm S a (b.setCell ad v) :=
  ⟨h.os, h.tape, h.output, by simpa [World.setCell] using h.size, fun i hi hn => (Below.heap_setCell _ _ _ _ (by omega)).trans (h.block i hi hn)⟩
/-- a cell of a block that is none of the manager's -/
theorem Mn.setX {X : Nat → Prop} {w : World} {g : Nat} {ms : Mg} (h : Mn X w g ms) {ad : Addr} (hx : X ad.block) (v : Value) : Mn X (w.setCell ad v) g ms := by
  obtain ⟨ob, ps, h1, h2⟩ := h.ex
  have hs : (w.setCell ad v).heap.size = w.heap.size := by simp [World.setCell]
  have hoth : ∀ j, j ≠ ad.block → (w.setCell ad v).heap[j]? = w.heap[j]? := fun j hj => Below.heap_setCell _ _ _ _ hj
  have hgs : (w.setCell ad v).heap[g]? = w.heap[g]? := hoth g (fun e => h2 g (.inl rfl) (e ▸ hx))
  exact ⟨⟨ob, ps, h1.keptX (Nat.le_of_eq hs.symm) (fun i hi => hoth i (fun e => h2 i hi (e ▸ hx))) (fun i hi _ => hoth i (fun e => h.ver i hi (e ▸ hx))), h2⟩, fun b hv => h.ver b (hv.same hgs), h.few, fun i hi => by rw [hs]; exact h.xb i hi⟩
set_option maxHeartbeats 4000000 in
theorem do_get (X : Nat → Prop) (w : World) (g : Nat) (ms : Mg) (h : Mn X w g ms) (t : Int) (ht : -9223372036854775808 ≤ t ∧ t ≤ 9223372036854775807) (key to val : ByteArray) :
    Calls Tryz.prog 19 #[.pointer (some ⟨g, 0, none⟩), .agg #[.int .u8 2, .int .i64 t, .string key, .string to, .string val]] w fun e w' => e = .returned (.agg #[.int .i64 (mGet ms t key).2.2.2, .int .i64 0, .string (mGet ms t key).2.1, .bool (mGet ms t key).2.2.1, .slice none 0 0, .slice none 0 0, .int .u64 0]) ∧ Mn X w' g (mGet ms t key).1 ∧ Frm (fun i => ¬ X i) w w' := by
  have HB : Hid (Below w.heap.size w (((w.alloc (.cells #[.int .u8 2, .int .i64 t, .string key, .string to, .string val] 40)).alloc (.cells #[.int .i64 0, .int .i64 0, .string ⟨#[]⟩, .bool false, .slice none 0 0, .slice none 0 0, .int .u64 0] 47)).alloc (.cells #[.int .i64 0, .int .i64 0, .string ⟨#[]⟩, .bool false, .slice none 0 0, .slice none 0 0, .int .u64 0] 47))) := hide ((((Below.refl _ w).alloc (Nat.le_refl _) _).alloc (by simp) _).alloc (by simp; omega) _)
  have HM := hide (h.news HB.out)
  have HC := hide (mn_get _ _ g ms HM.out t ht key)
  have hsz1 : (w.alloc (.cells #[.int .u8 2, .int .i64 t, .string key, .string to, .string val] 40)).heap.size = w.heap.size + 1 := World.size_alloc _ _
  have hsz2 : ((w.alloc (.cells #[.int .u8 2, .int .i64 t, .string key, .string to, .string val] 40)).alloc (.cells #[.int .i64 0, .int .i64 0, .string ⟨#[]⟩, .bool false, .slice none 0 0, .slice none 0 0, .int .u64 0] 47)).heap.size = w.heap.size + 1 + 1 := by rw [World.size_alloc, hsz1]
  have HSV : Hid ((((w.alloc (.cells #[.int .u8 2, .int .i64 t, .string key, .string to, .string val] 40)).alloc (.cells #[.int .i64 0, .int .i64 0, .string ⟨#[]⟩, .bool false, .slice none 0 0, .slice none 0 0, .int .u64 0] 47)).alloc (.cells #[.int .i64 0, .int .i64 0, .string ⟨#[]⟩, .bool false, .slice none 0 0, .slice none 0 0, .int .u64 0] 47)).heap.size = w.heap.size + 1 + 1 + 1) := hide (by rw [World.size_alloc, hsz2])
  have HV4 : Hid ((((w.alloc (.cells #[.int .u8 2, .int .i64 t, .string key, .string to, .string val] 40)).alloc (.cells #[.int .i64 0, .int .i64 0, .string ⟨#[]⟩, .bool false, .slice none 0 0, .slice none 0 0, .int .u64 0] 47)).alloc (.cells #[.int .i64 0, .int .i64 0, .string ⟨#[]⟩, .bool false, .slice none 0 0, .slice none 0 0, .int .u64 0] 47)).heap[w.heap.size + 1]? = some (.cells #[.int .i64 0, .int .i64 0, .string ⟨#[]⟩, .bool false, .slice none 0 0, .slice none 0 0, .int .u64 0] 47 (0, 0))) := hide ((Below.heap_alloc _ _ _ (by rw [hsz2]; omega)).trans (by have := heap_alloc_new (w.alloc (.cells #[.int .u8 2, .int .i64 t, .string key, .string to, .string val] 40)) (.cells #[.int .i64 0, .int .i64 0, .string ⟨#[]⟩, .bool false, .slice none 0 0, .slice none 0 0, .int .u64 0] 47); rw [hsz1] at this; exact this))
  have HV5 : Hid ((((w.alloc (.cells #[.int .u8 2, .int .i64 t, .string key, .string to, .string val] 40)).alloc (.cells #[.int .i64 0, .int .i64 0, .string ⟨#[]⟩, .bool false, .slice none 0 0, .slice none 0 0, .int .u64 0] 47)).alloc (.cells #[.int .i64 0, .int .i64 0, .string ⟨#[]⟩, .bool false, .slice none 0 0, .slice none 0 0, .int .u64 0] 47)).heap[w.heap.size + 1 + 1]? = some (.cells #[.int .i64 0, .int .i64 0, .string ⟨#[]⟩, .bool false, .slice none 0 0, .slice none 0 0, .int .u64 0] 47 (0, 0))) := hide (by have := heap_alloc_new ((w.alloc (.cells #[.int .u8 2, .int .i64 t, .string key, .string to, .string val] 40)).alloc (.cells #[.int .i64 0, .int .i64 0, .string ⟨#[]⟩, .bool false, .slice none 0 0, .slice none 0 0, .int .u64 0] 47)) (.cells #[.int .i64 0, .int .i64 0, .string ⟨#[]⟩, .bool false, .slice none 0 0, .slice none 0 0, .int .u64 0] 47); rw [hsz2] at this; exact this)
  clear h ht hsz1 hsz2
  go_enter Tryz.func19, Tryz.ntmps19
  go_wp2_with fail
  refine HC.out.mono ?_
  rintro e w1 ⟨rfl, hM, hF⟩
  have HM1 := hide hM
  have HF1 := hide hF
  have HW4 : Hid (w1.heap[w.heap.size + 1]? = some (.cells #[.int .i64 0, .int .i64 0, .string ⟨#[]⟩, .bool false, .slice none 0 0, .slice none 0 0, .int .u64 0] 47 (0, 0))) := hide ((hF.block _ (heap_lt HV4.out) (fun hn => hn (.inr ⟨by omega, by have := HSV.out; omega⟩))).trans HV4.out)
  have HW5 : Hid (w1.heap[w.heap.size + 1 + 1]? = some (.cells #[.int .i64 0, .int .i64 0, .string ⟨#[]⟩, .bool false, .slice none 0 0, .slice none 0 0, .int .u64 0] 47 (0, 0))) := hide ((hF.block _ (heap_lt HV5.out) (fun hn => hn (.inr ⟨by omega, by have := HSV.out; omega⟩))).trans HV5.out)
  clear hM hF HC
  have HX : Hid (∀ i, (w.heap.size ≤ i ∧ i < (((w.alloc (.cells #[.int .u8 2, .int .i64 t, .string key, .string to, .string val] 40)).alloc (.cells #[.int .i64 0, .int .i64 0, .string ⟨#[]⟩, .bool false, .slice none 0 0, .slice none 0 0, .int .u64 0] 47)).alloc (.cells #[.int .i64 0, .int .i64 0, .string ⟨#[]⟩, .bool false, .slice none 0 0, .slice none 0 0, .int .u64 0] 47)).heap.size) → (X i ∨ (w.heap.size ≤ i ∧ i < (((w.alloc (.cells #[.int .u8 2, .int .i64 t, .string key, .string to, .string val] 40)).alloc (.cells #[.int .i64 0, .int .i64 0, .string ⟨#[]⟩, .bool false, .slice none 0 0, .slice none 0 0, .int .u64 0] 47)).alloc (.cells #[.int .i64 0, .int .i64 0, .string ⟨#[]⟩, .bool false, .slice none 0 0, .slice none 0 0, .int .u64 0] 47)).heap.size))) := hide (fun i hi => .inr hi)
  have HX0 : Hid (∀ i, X i → (X i ∨ (w.heap.size ≤ i ∧ i < (((w.alloc (.cells #[.int .u8 2, .int .i64 t, .string key, .string to, .string val] 40)).alloc (.cells #[.int .i64 0, .int .i64 0, .string ⟨#[]⟩, .bool false, .slice none 0 0, .slice none 0 0, .int .u64 0] 47)).alloc (.cells #[.int .i64 0, .int .i64 0, .string ⟨#[]⟩, .bool false, .slice none 0 0, .slice none 0 0, .int .u64 0] 47)).heap.size))) := hide (fun i hi => .inl hi)
  have a0 : w1.cell? ⟨w.heap.size + 1 + 1, 0, none⟩ = some (.int .i64 0) := cell_blk HW5.out rfl
  have b0 : w1.cell? ⟨w.heap.size + 1, 0, none⟩ = some (.int .i64 0) := cell_blk HW4.out rfl
  have g0 : w1.frozen? ⟨w.heap.size + 1, 0, none⟩ = false := frz HW4.out 0
  have a1 : w1.cell? ⟨w.heap.size + 1 + 1, 1, none⟩ = some (.int .i64 0) := cell_blk HW5.out rfl
  have b1 : w1.cell? ⟨w.heap.size + 1, 1, none⟩ = some (.int .i64 0) := cell_blk HW4.out rfl
  have g1 : w1.frozen? ⟨w.heap.size + 1, 1, none⟩ = false := frz HW4.out 1
  have a2 : w1.cell? ⟨w.heap.size + 1 + 1, 2, none⟩ = some (.string ⟨#[]⟩) := cell_blk HW5.out rfl
  have b2 : w1.cell? ⟨w.heap.size + 1, 2, none⟩ = some (.string ⟨#[]⟩) := cell_blk HW4.out rfl
  have g2 : w1.frozen? ⟨w.heap.size + 1, 2, none⟩ = false := frz HW4.out 2
  have a3 : w1.cell? ⟨w.heap.size + 1 + 1, 3, none⟩ = some (.bool false) := cell_blk HW5.out rfl
  have b3 : w1.cell? ⟨w.heap.size + 1, 3, none⟩ = some (.bool false) := cell_blk HW4.out rfl
  have g3 : w1.frozen? ⟨w.heap.size + 1, 3, none⟩ = false := frz HW4.out 3
  have a4 : w1.cell? ⟨w.heap.size + 1 + 1, 4, none⟩ = some (.slice none 0 0) := cell_blk HW5.out rfl
  have b4 : w1.cell? ⟨w.heap.size + 1, 4, none⟩ = some (.slice none 0 0) := cell_blk HW4.out rfl
  have g4 : w1.frozen? ⟨w.heap.size + 1, 4, none⟩ = false := frz HW4.out 4
  have a5 : w1.cell? ⟨w.heap.size + 1 + 1, 5, none⟩ = some (.slice none 0 0) := cell_blk HW5.out rfl
  have b5 : w1.cell? ⟨w.heap.size + 1, 5, none⟩ = some (.slice none 0 0) := cell_blk HW4.out rfl
  have g5 : w1.frozen? ⟨w.heap.size + 1, 5, none⟩ = false := frz HW4.out 5
  have a6 : w1.cell? ⟨w.heap.size + 1 + 1, 6, none⟩ = some (.int .u64 0) := cell_blk HW5.out rfl
  have b6 : w1.cell? ⟨w.heap.size + 1, 6, none⟩ = some (.int .u64 0) := cell_blk HW4.out rfl
  have g6 : w1.frozen? ⟨w.heap.size + 1, 6, none⟩ = false := frz HW4.out 6
  have f2 : w1.frozen? ⟨w.heap.size + 1 + 1, 2, none⟩ = false := frz HW5.out 2
  have f3 : w1.frozen? ⟨w.heap.size + 1 + 1, 3, none⟩ = false := frz HW5.out 3
  have f0 : w1.frozen? ⟨w.heap.size + 1 + 1, 0, none⟩ = false := frz HW5.out 0
  have HT : Hid (((((((((((w1.setCell ⟨w.heap.size + 1 + 1, 2, none⟩ (.string (mGet ms t key).2.1)).setCell ⟨w.heap.size + 1 + 1, 3, none⟩ (.bool (mGet ms t key).2.2.1)).setCell ⟨w.heap.size + 1 + 1, 0, none⟩ (.int .i64 (mGet ms t key).2.2.2)).setCell ⟨w.heap.size + 1, 0, none⟩ (.int .i64 (mGet ms t key).2.2.2)).setCell ⟨w.heap.size + 1, 1, none⟩ (.int .i64 0)).setCell ⟨w.heap.size + 1, 2, none⟩ (.string (mGet ms t key).2.1)).setCell ⟨w.heap.size + 1, 3, none⟩ (.bool (mGet ms t key).2.2.1)).setCell ⟨w.heap.size + 1, 4, none⟩ (.slice none 0 0)).setCell ⟨w.heap.size + 1, 5, none⟩ (.slice none 0 0)).setCell ⟨w.heap.size + 1, 6, none⟩ (.int .u64 0)).heap[w.heap.size + 1]? = some (.cells #[.int .i64 (mGet ms t key).2.2.2, .int .i64 0, .string (mGet ms t key).2.1, .bool (mGet ms t key).2.2.1, .slice none 0 0, .slice none 0 0, .int .u64 0] 47 (0, 0))) := hide (by
    have p0 : (((w1.setCell ⟨w.heap.size + 1 + 1, 2, none⟩ (.string (mGet ms t key).2.1)).setCell ⟨w.heap.size + 1 + 1, 3, none⟩ (.bool (mGet ms t key).2.2.1)).setCell ⟨w.heap.size + 1 + 1, 0, none⟩ (.int .i64 (mGet ms t key).2.2.2)).heap[w.heap.size + 1]? = some (.cells #[.int .i64 0, .int .i64 0, .string ⟨#[]⟩, .bool false, .slice none 0 0, .slice none 0 0, .int .u64 0] 47 (0, 0)) := (Below.heap_setCell _ _ _ _ (by simp)).trans ((Below.heap_setCell _ _ _ _ (by simp)).trans ((Below.heap_setCell _ _ _ _ (by simp)).trans (HW4.out)))
    have p1 := blk_set2 (j := 0) p0 (.int .i64 (mGet ms t key).2.2.2)
    have p2 := blk_set2 (j := 1) p1 (.int .i64 0)
    have p3 := blk_set2 (j := 2) p2 (.string (mGet ms t key).2.1)
    have p4 := blk_set2 (j := 3) p3 (.bool (mGet ms t key).2.2.1)
    have p5 := blk_set2 (j := 4) p4 (.slice none 0 0)
    have p6 := blk_set2 (j := 5) p5 (.slice none 0 0)
    have p7 := blk_set2 (j := 6) p6 (.int .u64 0)
    simpa using p7)
  have HFE : Hid (Frm (fun i => ¬ X i) w ((((((((((w1.setCell ⟨w.heap.size + 1 + 1, 2, none⟩ (.string (mGet ms t key).2.1)).setCell ⟨w.heap.size + 1 + 1, 3, none⟩ (.bool (mGet ms t key).2.2.1)).setCell ⟨w.heap.size + 1 + 1, 0, none⟩ (.int .i64 (mGet ms t key).2.2.2)).setCell ⟨w.heap.size + 1, 0, none⟩ (.int .i64 (mGet ms t key).2.2.2)).setCell ⟨w.heap.size + 1, 1, none⟩ (.int .i64 0)).setCell ⟨w.heap.size + 1, 2, none⟩ (.string (mGet ms t key).2.1)).setCell ⟨w.heap.size + 1, 3, none⟩ (.bool (mGet ms t key).2.2.1)).setCell ⟨w.heap.size + 1, 4, none⟩ (.slice none 0 0)).setCell ⟨w.heap.size + 1, 5, none⟩ (.slice none 0 0)).setCell ⟨w.heap.size + 1, 6, none⟩ (.int .u64 0)) ∧ Mn X ((((((((((w1.setCell ⟨w.heap.size + 1 + 1, 2, none⟩ (.string (mGet ms t key).2.1)).setCell ⟨w.heap.size + 1 + 1, 3, none⟩ (.bool (mGet ms t key).2.2.1)).setCell ⟨w.heap.size + 1 + 1, 0, none⟩ (.int .i64 (mGet ms t key).2.2.2)).setCell ⟨w.heap.size + 1, 0, none⟩ (.int .i64 (mGet ms t key).2.2.2)).setCell ⟨w.heap.size + 1, 1, none⟩ (.int .i64 0)).setCell ⟨w.heap.size + 1, 2, none⟩ (.string (mGet ms t key).2.1)).setCell ⟨w.heap.size + 1, 3, none⟩ (.bool (mGet ms t key).2.2.1)).setCell ⟨w.heap.size + 1, 4, none⟩ (.slice none 0 0)).setCell ⟨w.heap.size + 1, 5, none⟩ (.slice none 0 0)).setCell ⟨w.heap.size + 1, 6, none⟩ (.int .u64 0)) g (mGet ms t key).1) := hide (by
    have h0 : Frm (fun i => ¬ X i) w w1 := ⟨by rw [HF1.out.os]; exact HB.out.os, by rw [HF1.out.tape]; exact HB.out.tape, by rw [HF1.out.output]; exact HB.out.output, Nat.le_trans HB.out.size HF1.out.size, fun i hi hn => (HF1.out.block i (Nat.lt_of_lt_of_le hi HB.out.size) (fun hq => hq (.inl (Classical.not_not.1 hn)))).trans (HB.out.block i hi)⟩
    have hx5 : w.heap.size ≤ w.heap.size + 1 + 1 ∧ w.heap.size + 1 + 1 < (((w.alloc (.cells #[.int .u8 2, .int .i64 t, .string key, .string to, .string val] 40)).alloc (.cells #[.int .i64 0, .int .i64 0, .string ⟨#[]⟩, .bool false, .slice none 0 0, .slice none 0 0, .int .u64 0] 47)).alloc (.cells #[.int .i64 0, .int .i64 0, .string ⟨#[]⟩, .bool false, .slice none 0 0, .slice none 0 0, .int .u64 0] 47)).heap.size := ⟨by omega, by have := HSV.out; omega⟩
    have hx4 : w.heap.size ≤ w.heap.size + 1 ∧ w.heap.size + 1 < (((w.alloc (.cells #[.int .u8 2, .int .i64 t, .string key, .string to, .string val] 40)).alloc (.cells #[.int .i64 0, .int .i64 0, .string ⟨#[]⟩, .bool false, .slice none 0 0, .slice none 0 0, .int .u64 0] 47)).alloc (.cells #[.int .i64 0, .int .i64 0, .string ⟨#[]⟩, .bool false, .slice none 0 0, .slice none 0 0, .int .u64 0] 47)).heap.size := ⟨by omega, by have := HSV.out; omega⟩
    exact ⟨(Frm.setFar (Frm.setFar (Frm.setFar (Frm.setFar (Frm.setFar (Frm.setFar (Frm.setFar (Frm.setFar (Frm.setFar (Frm.setFar h0 (by simp; omega) _) (by simp; omega) _) (by simp; omega) _) (by simp) _) (by simp) _) (by simp) _) (by simp) _) (by simp) _) (by simp) _) (by simp) _), Mn.mono (Mn.setX (Mn.setX (Mn.setX (Mn.setX (Mn.setX (Mn.setX (Mn.setX (Mn.setX (Mn.setX (Mn.setX HM1.out (HX.out _ hx5) _) (HX.out _ hx5) _) (HX.out _ hx5) _) (HX.out _ hx4) _) (HX.out _ hx4) _) (HX.out _ hx4) _) (HX.out _ hx4) _) (HX.out _ hx4) _) (HX.out _ hx4) _) (HX.out _ hx4) _) (fun i hi => HX0.out i hi)⟩)
  clear HM1 HF1 HV4 HV5 HW4 HW5 HM HB HSV
  go_wp2
  refine bodyPost_ret (results_cell_row (P := Tryz.prog) (p := 4) (ty := 47) rfl _ _ _ 47 _ (0, 0) _ rfl HT.out Tryz.underlying47 rfl (by kernel_rfl)) rfl ?_
  exact ⟨rfl, HFE.out.2, HFE.out.1⟩
set_option maxHeartbeats 4000000 in
theorem do_put (X : Nat → Prop) (w : World) (g : Nat) (ms : Mg) (h : Mn X w g ms) (t : Int) (ht : -9223372036854775808 ≤ t ∧ t ≤ 9223372036854775807) (key to val : ByteArray) :
    Calls Tryz.prog 19 #[.pointer (some ⟨g, 0, none⟩), .agg #[.int .u8 4, .int .i64 t, .string key, .string to, .string val]] w fun e w' => e = .returned (.agg #[.int .i64 (mWrite ms t ⟨key, val, false⟩).2, .int .i64 0, .string ⟨#[]⟩, .bool false, .slice none 0 0, .slice none 0 0, .int .u64 0]) ∧ Mn X w' g (mWrite ms t ⟨key, val, false⟩).1 ∧ Frm (fun i => ¬ X i) w w' := by
  have HB : Hid (Below w.heap.size w (((w.alloc (.cells #[.int .u8 4, .int .i64 t, .string key, .string to, .string val] 40)).alloc (.cells #[.int .i64 0, .int .i64 0, .string ⟨#[]⟩, .bool false, .slice none 0 0, .slice none 0 0, .int .u64 0] 47)).alloc (.cells #[.int .i64 0, .int .i64 0, .string ⟨#[]⟩, .bool false, .slice none 0 0, .slice none 0 0, .int .u64 0] 47))) := hide ((((Below.refl _ w).alloc (Nat.le_refl _) _).alloc (by simp) _).alloc (by simp; omega) _)
  have HM := hide (h.news HB.out)
  have HC := hide (mn_put _ _ g ms HM.out t ht key val)
  have hsz1 : (w.alloc (.cells #[.int .u8 4, .int .i64 t, .string key, .string to, .string val] 40)).heap.size = w.heap.size + 1 := World.size_alloc _ _
  have hsz2 : ((w.alloc (.cells #[.int .u8 4, .int .i64 t, .string key, .string to, .string val] 40)).alloc (.cells #[.int .i64 0, .int .i64 0, .string ⟨#[]⟩, .bool false, .slice none 0 0, .slice none 0 0, .int .u64 0] 47)).heap.size = w.heap.size + 1 + 1 := by rw [World.size_alloc, hsz1]
  have HSV : Hid ((((w.alloc (.cells #[.int .u8 4, .int .i64 t, .string key, .string to, .string val] 40)).alloc (.cells #[.int .i64 0, .int .i64 0, .string ⟨#[]⟩, .bool false, .slice none 0 0, .slice none 0 0, .int .u64 0] 47)).alloc (.cells #[.int .i64 0, .int .i64 0, .string ⟨#[]⟩, .bool false, .slice none 0 0, .slice none 0 0, .int .u64 0] 47)).heap.size = w.heap.size + 1 + 1 + 1) := hide (by rw [World.size_alloc, hsz2])
  have HV4 : Hid ((((w.alloc (.cells #[.int .u8 4, .int .i64 t, .string key, .string to, .string val] 40)).alloc (.cells #[.int .i64 0, .int .i64 0, .string ⟨#[]⟩, .bool false, .slice none 0 0, .slice none 0 0, .int .u64 0] 47)).alloc (.cells #[.int .i64 0, .int .i64 0, .string ⟨#[]⟩, .bool false, .slice none 0 0, .slice none 0 0, .int .u64 0] 47)).heap[w.heap.size + 1]? = some (.cells #[.int .i64 0, .int .i64 0, .string ⟨#[]⟩, .bool false, .slice none 0 0, .slice none 0 0, .int .u64 0] 47 (0, 0))) := hide ((Below.heap_alloc _ _ _ (by rw [hsz2]; omega)).trans (by have := heap_alloc_new (w.alloc (.cells #[.int .u8 4, .int .i64 t, .string key, .string to, .string val] 40)) (.cells #[.int .i64 0, .int .i64 0, .string ⟨#[]⟩, .bool false, .slice none 0 0, .slice none 0 0, .int .u64 0] 47); rw [hsz1] at this; exact this))
  have HV5 : Hid ((((w.alloc (.cells #[.int .u8 4, .int .i64 t, .string key, .string to, .string val] 40)).alloc (.cells #[.int .i64 0, .int .i64 0, .string ⟨#[]⟩, .bool false, .slice none 0 0, .slice none 0 0, .int .u64 0] 47)).alloc (.cells #[.int .i64 0, .int .i64 0, .string ⟨#[]⟩, .bool false, .slice none 0 0, .slice none 0 0, .int .u64 0] 47)).heap[w.heap.size + 1 + 1]? = some (.cells #[.int .i64 0, .int .i64 0, .string ⟨#[]⟩, .bool false, .slice none 0 0, .slice none 0 0, .int .u64 0] 47 (0, 0))) := hide (by have := heap_alloc_new ((w.alloc (.cells #[.int .u8 4, .int .i64 t, .string key, .string to, .string val] 40)).alloc (.cells #[.int .i64 0, .int .i64 0, .string ⟨#[]⟩, .bool false, .slice none 0 0, .slice none 0 0, .int .u64 0] 47)) (.cells #[.int .i64 0, .int .i64 0, .string ⟨#[]⟩, .bool false, .slice none 0 0, .slice none 0 0, .int .u64 0] 47); rw [hsz2] at this; exact this)
  clear h ht hsz1 hsz2
  go_enter Tryz.func19, Tryz.ntmps19
  go_wp2_with fail
  refine HC.out.mono ?_
  rintro e w1 ⟨rfl, hM, hF⟩
  have HM1 := hide hM
  have HF1 := hide hF
  have HW4 : Hid (w1.heap[w.heap.size + 1]? = some (.cells #[.int .i64 0, .int .i64 0, .string ⟨#[]⟩, .bool false, .slice none 0 0, .slice none 0 0, .int .u64 0] 47 (0, 0))) := hide ((hF.block _ (heap_lt HV4.out) (fun hn => hn (.inr ⟨by omega, by have := HSV.out; omega⟩))).trans HV4.out)
  have HW5 : Hid (w1.heap[w.heap.size + 1 + 1]? = some (.cells #[.int .i64 0, .int .i64 0, .string ⟨#[]⟩, .bool false, .slice none 0 0, .slice none 0 0, .int .u64 0] 47 (0, 0))) := hide ((hF.block _ (heap_lt HV5.out) (fun hn => hn (.inr ⟨by omega, by have := HSV.out; omega⟩))).trans HV5.out)
  clear hM hF HC
  have HX : Hid (∀ i, (w.heap.size ≤ i ∧ i < (((w.alloc (.cells #[.int .u8 4, .int .i64 t, .string key, .string to, .string val] 40)).alloc (.cells #[.int .i64 0, .int .i64 0, .string ⟨#[]⟩, .bool false, .slice none 0 0, .slice none 0 0, .int .u64 0] 47)).alloc (.cells #[.int .i64 0, .int .i64 0, .string ⟨#[]⟩, .bool false, .slice none 0 0, .slice none 0 0, .int .u64 0] 47)).heap.size) → (X i ∨ (w.heap.size ≤ i ∧ i < (((w.alloc (.cells #[.int .u8 4, .int .i64 t, .string key, .string to, .string val] 40)).alloc (.cells #[.int .i64 0, .int .i64 0, .string ⟨#[]⟩, .bool false, .slice none 0 0, .slice none 0 0, .int .u64 0] 47)).alloc (.cells #[.int .i64 0, .int .i64 0, .string ⟨#[]⟩, .bool false, .slice none 0 0, .slice none 0 0, .int .u64 0] 47)).heap.size))) := hide (fun i hi => .inr hi)
  have HX0 : Hid (∀ i, X i → (X i ∨ (w.heap.size ≤ i ∧ i < (((w.alloc (.cells #[.int .u8 4, .int .i64 t, .string key, .string to, .string val] 40)).alloc (.cells #[.int .i64 0, .int .i64 0, .string ⟨#[]⟩, .bool false, .slice none 0 0, .slice none 0 0, .int .u64 0] 47)).alloc (.cells #[.int .i64 0, .int .i64 0, .string ⟨#[]⟩, .bool false, .slice none 0 0, .slice none 0 0, .int .u64 0] 47)).heap.size))) := hide (fun i hi => .inl hi)
  have a0 : w1.cell? ⟨w.heap.size + 1 + 1, 0, none⟩ = some (.int .i64 0) := cell_blk HW5.out rfl
  have b0 : w1.cell? ⟨w.heap.size + 1, 0, none⟩ = some (.int .i64 0) := cell_blk HW4.out rfl
  have g0 : w1.frozen? ⟨w.heap.size + 1, 0, none⟩ = false := frz HW4.out 0
  have a1 : w1.cell? ⟨w.heap.size + 1 + 1, 1, none⟩ = some (.int .i64 0) := cell_blk HW5.out rfl
  have b1 : w1.cell? ⟨w.heap.size + 1, 1, none⟩ = some (.int .i64 0) := cell_blk HW4.out rfl
  have g1 : w1.frozen? ⟨w.heap.size + 1, 1, none⟩ = false := frz HW4.out 1
  have a2 : w1.cell? ⟨w.heap.size + 1 + 1, 2, none⟩ = some (.string ⟨#[]⟩) := cell_blk HW5.out rfl
  have b2 : w1.cell? ⟨w.heap.size + 1, 2, none⟩ = some (.string ⟨#[]⟩) := cell_blk HW4.out rfl
  have g2 : w1.frozen? ⟨w.heap.size + 1, 2, none⟩ = false := frz HW4.out 2
  have a3 : w1.cell? ⟨w.heap.size + 1 + 1, 3, none⟩ = some (.bool false) := cell_blk HW5.out rfl
  have b3 : w1.cell? ⟨w.heap.size + 1, 3, none⟩ = some (.bool false) := cell_blk HW4.out rfl
  have g3 : w1.frozen? ⟨w.heap.size + 1, 3, none⟩ = false := frz HW4.out 3
  have a4 : w1.cell? ⟨w.heap.size + 1 + 1, 4, none⟩ = some (.slice none 0 0) := cell_blk HW5.out rfl
  have b4 : w1.cell? ⟨w.heap.size + 1, 4, none⟩ = some (.slice none 0 0) := cell_blk HW4.out rfl
  have g4 : w1.frozen? ⟨w.heap.size + 1, 4, none⟩ = false := frz HW4.out 4
  have a5 : w1.cell? ⟨w.heap.size + 1 + 1, 5, none⟩ = some (.slice none 0 0) := cell_blk HW5.out rfl
  have b5 : w1.cell? ⟨w.heap.size + 1, 5, none⟩ = some (.slice none 0 0) := cell_blk HW4.out rfl
  have g5 : w1.frozen? ⟨w.heap.size + 1, 5, none⟩ = false := frz HW4.out 5
  have a6 : w1.cell? ⟨w.heap.size + 1 + 1, 6, none⟩ = some (.int .u64 0) := cell_blk HW5.out rfl
  have b6 : w1.cell? ⟨w.heap.size + 1, 6, none⟩ = some (.int .u64 0) := cell_blk HW4.out rfl
  have g6 : w1.frozen? ⟨w.heap.size + 1, 6, none⟩ = false := frz HW4.out 6
  have f0 : w1.frozen? ⟨w.heap.size + 1 + 1, 0, none⟩ = false := frz HW5.out 0
  have HT : Hid (((((((((w1.setCell ⟨w.heap.size + 1 + 1, 0, none⟩ (.int .i64 (mWrite ms t ⟨key, val, false⟩).2)).setCell ⟨w.heap.size + 1, 0, none⟩ (.int .i64 (mWrite ms t ⟨key, val, false⟩).2)).setCell ⟨w.heap.size + 1, 1, none⟩ (.int .i64 0)).setCell ⟨w.heap.size + 1, 2, none⟩ (.string ⟨#[]⟩)).setCell ⟨w.heap.size + 1, 3, none⟩ (.bool false)).setCell ⟨w.heap.size + 1, 4, none⟩ (.slice none 0 0)).setCell ⟨w.heap.size + 1, 5, none⟩ (.slice none 0 0)).setCell ⟨w.heap.size + 1, 6, none⟩ (.int .u64 0)).heap[w.heap.size + 1]? = some (.cells #[.int .i64 (mWrite ms t ⟨key, val, false⟩).2, .int .i64 0, .string ⟨#[]⟩, .bool false, .slice none 0 0, .slice none 0 0, .int .u64 0] 47 (0, 0))) := hide (by
    have p0 : (w1.setCell ⟨w.heap.size + 1 + 1, 0, none⟩ (.int .i64 (mWrite ms t ⟨key, val, false⟩).2)).heap[w.heap.size + 1]? = some (.cells #[.int .i64 0, .int .i64 0, .string ⟨#[]⟩, .bool false, .slice none 0 0, .slice none 0 0, .int .u64 0] 47 (0, 0)) := (Below.heap_setCell _ _ _ _ (by simp)).trans (HW4.out)
    have p1 := blk_set2 (j := 0) p0 (.int .i64 (mWrite ms t ⟨key, val, false⟩).2)
    have p2 := blk_set2 (j := 1) p1 (.int .i64 0)
    have p3 := blk_set2 (j := 2) p2 (.string ⟨#[]⟩)
    have p4 := blk_set2 (j := 3) p3 (.bool false)
    have p5 := blk_set2 (j := 4) p4 (.slice none 0 0)
    have p6 := blk_set2 (j := 5) p5 (.slice none 0 0)
    have p7 := blk_set2 (j := 6) p6 (.int .u64 0)
    simpa using p7)
  have HFE : Hid (Frm (fun i => ¬ X i) w ((((((((w1.setCell ⟨w.heap.size + 1 + 1, 0, none⟩ (.int .i64 (mWrite ms t ⟨key, val, false⟩).2)).setCell ⟨w.heap.size + 1, 0, none⟩ (.int .i64 (mWrite ms t ⟨key, val, false⟩).2)).setCell ⟨w.heap.size + 1, 1, none⟩ (.int .i64 0)).setCell ⟨w.heap.size + 1, 2, none⟩ (.string ⟨#[]⟩)).setCell ⟨w.heap.size + 1, 3, none⟩ (.bool false)).setCell ⟨w.heap.size + 1, 4, none⟩ (.slice none 0 0)).setCell ⟨w.heap.size + 1, 5, none⟩ (.slice none 0 0)).setCell ⟨w.heap.size + 1, 6, none⟩ (.int .u64 0)) ∧ Mn X ((((((((w1.setCell ⟨w.heap.size + 1 + 1, 0, none⟩ (.int .i64 (mWrite ms t ⟨key, val, false⟩).2)).setCell ⟨w.heap.size + 1, 0, none⟩ (.int .i64 (mWrite ms t ⟨key, val, false⟩).2)).setCell ⟨w.heap.size + 1, 1, none⟩ (.int .i64 0)).setCell ⟨w.heap.size + 1, 2, none⟩ (.string ⟨#[]⟩)).setCell ⟨w.heap.size + 1, 3, none⟩ (.bool false)).setCell ⟨w.heap.size + 1, 4, none⟩ (.slice none 0 0)).setCell ⟨w.heap.size + 1, 5, none⟩ (.slice none 0 0)).setCell ⟨w.heap.size + 1, 6, none⟩ (.int .u64 0)) g (mWrite ms t ⟨key, val, false⟩).1) := hide (by
    have h0 : Frm (fun i => ¬ X i) w w1 := ⟨by rw [HF1.out.os]; exact HB.out.os, by rw [HF1.out.tape]; exact HB.out.tape, by rw [HF1.out.output]; exact HB.out.output, Nat.le_trans HB.out.size HF1.out.size, fun i hi hn => (HF1.out.block i (Nat.lt_of_lt_of_le hi HB.out.size) (fun hq => hq (.inl (Classical.not_not.1 hn)))).trans (HB.out.block i hi)⟩
    have hx5 : w.heap.size ≤ w.heap.size + 1 + 1 ∧ w.heap.size + 1 + 1 < (((w.alloc (.cells #[.int .u8 4, .int .i64 t, .string key, .string to, .string val] 40)).alloc (.cells #[.int .i64 0, .int .i64 0, .string ⟨#[]⟩, .bool false, .slice none 0 0, .slice none 0 0, .int .u64 0] 47)).alloc (.cells #[.int .i64 0, .int .i64 0, .string ⟨#[]⟩, .bool false, .slice none 0 0, .slice none 0 0, .int .u64 0] 47)).heap.size := ⟨by omega, by have := HSV.out; omega⟩
    have hx4 : w.heap.size ≤ w.heap.size + 1 ∧ w.heap.size + 1 < (((w.alloc (.cells #[.int .u8 4, .int .i64 t, .string key, .string to, .string val] 40)).alloc (.cells #[.int .i64 0, .int .i64 0, .string ⟨#[]⟩, .bool false, .slice none 0 0, .slice none 0 0, .int .u64 0] 47)).alloc (.cells #[.int .i64 0, .int .i64 0, .string ⟨#[]⟩, .bool false, .slice none 0 0, .slice none 0 0, .int .u64 0] 47)).heap.size := ⟨by omega, by have := HSV.out; omega⟩
    exact ⟨(Frm.setFar (Frm.setFar (Frm.setFar (Frm.setFar (Frm.setFar (Frm.setFar (Frm.setFar (Frm.setFar h0 (by simp; omega) _) (by simp) _) (by simp) _) (by simp) _) (by simp) _) (by simp) _) (by simp) _) (by simp) _), Mn.mono (Mn.setX (Mn.setX (Mn.setX (Mn.setX (Mn.setX (Mn.setX (Mn.setX (Mn.setX HM1.out (HX.out _ hx5) _) (HX.out _ hx4) _) (HX.out _ hx4) _) (HX.out _ hx4) _) (HX.out _ hx4) _) (HX.out _ hx4) _) (HX.out _ hx4) _) (HX.out _ hx4) _) (fun i hi => HX0.out i hi)⟩)
  clear HM1 HF1 HV4 HV5 HW4 HW5 HM HB HSV
  go_wp2
  refine bodyPost_ret (results_cell_row (P := Tryz.prog) (p := 4) (ty := 47) rfl _ _ _ 47 _ (0, 0) _ rfl HT.out Tryz.underlying47 rfl (by kernel_rfl)) rfl ?_
  exact ⟨rfl, HFE.out.2, HFE.out.1⟩
set_option maxHeartbeats 4000000 in
theorem do_delete (X : Nat → Prop) (w : World) (g : Nat) (ms : Mg) (h : Mn X w g ms) (t : Int) (ht : -9223372036854775808 ≤ t ∧ t ≤ 9223372036854775807) (key to val : ByteArray) :
    Calls Tryz.prog 19 #[.pointer (some ⟨g, 0, none⟩), .agg #[.int .u8 5, .int .i64 t, .string key, .string to, .string val]] w fun e w' => e = .returned (.agg #[.int .i64 (mWrite ms t ⟨key, ⟨#[]⟩, true⟩).2, .int .i64 0, .string ⟨#[]⟩, .bool false, .slice none 0 0, .slice none 0 0, .int .u64 0]) ∧ Mn X w' g (mWrite ms t ⟨key, ⟨#[]⟩, true⟩).1 ∧ Frm (fun i => ¬ X i) w w' := by
  have HB : Hid (Below w.heap.size w (((w.alloc (.cells #[.int .u8 5, .int .i64 t, .string key, .string to, .string val] 40)).alloc (.cells #[.int .i64 0, .int .i64 0, .string ⟨#[]⟩, .bool false, .slice none 0 0, .slice none 0 0, .int .u64 0] 47)).alloc (.cells #[.int .i64 0, .int .i64 0, .string ⟨#[]⟩, .bool false, .slice none 0 0, .slice none 0 0, .int .u64 0] 47))) := hide ((((Below.refl _ w).alloc (Nat.le_refl _) _).alloc (by simp) _).alloc (by simp; omega) _)
  have HM := hide (h.news HB.out)
  have HC := hide (mn_delete _ _ g ms HM.out t ht key)
  have hsz1 : (w.alloc (.cells #[.int .u8 5, .int .i64 t, .string key, .string to, .string val] 40)).heap.size = w.heap.size + 1 := World.size_alloc _ _
  have hsz2 : ((w.alloc (.cells #[.int .u8 5, .int .i64 t, .string key, .string to, .string val] 40)).alloc (.cells #[.int .i64 0, .int .i64 0, .string ⟨#[]⟩, .bool false, .slice none 0 0, .slice none 0 0, .int .u64 0] 47)).heap.size = w.heap.size + 1 + 1 := by rw [World.size_alloc, hsz1]
  have HSV : Hid ((((w.alloc (.cells #[.int .u8 5, .int .i64 t, .string key, .string to, .string val] 40)).alloc (.cells #[.int .i64 0, .int .i64 0, .string ⟨#[]⟩, .bool false, .slice none 0 0, .slice none 0 0, .int .u64 0] 47)).alloc (.cells #[.int .i64 0, .int .i64 0, .string ⟨#[]⟩, .bool false, .slice none 0 0, .slice none 0 0, .int .u64 0] 47)).heap.size = w.heap.size + 1 + 1 + 1) := hide (by rw [World.size_alloc, hsz2])
  have HV4 : Hid ((((w.alloc (.cells #[.int .u8 5, .int .i64 t, .string key, .string to, .string val] 40)).alloc (.cells #[.int .i64 0, .int .i64 0, .string ⟨#[]⟩, .bool false, .slice none 0 0, .slice none 0 0, .int .u64 0] 47)).alloc (.cells #[.int .i64 0, .int .i64 0, .string ⟨#[]⟩, .bool false, .slice none 0 0, .slice none 0 0, .int .u64 0] 47)).heap[w.heap.size + 1]? = some (.cells #[.int .i64 0, .int .i64 0, .string ⟨#[]⟩, .bool false, .slice none 0 0, .slice none 0 0, .int .u64 0] 47 (0, 0))) := hide ((Below.heap_alloc _ _ _ (by rw [hsz2]; omega)).trans (by have := heap_alloc_new (w.alloc (.cells #[.int .u8 5, .int .i64 t, .string key, .string to, .string val] 40)) (.cells #[.int .i64 0, .int .i64 0, .string ⟨#[]⟩, .bool false, .slice none 0 0, .slice none 0 0, .int .u64 0] 47); rw [hsz1] at this; exact this))
  have HV5 : Hid ((((w.alloc (.cells #[.int .u8 5, .int .i64 t, .string key, .string to, .string val] 40)).alloc (.cells #[.int .i64 0, .int .i64 0, .string ⟨#[]⟩, .bool false, .slice none 0 0, .slice none 0 0, .int .u64 0] 47)).alloc (.cells #[.int .i64 0, .int .i64 0, .string ⟨#[]⟩, .bool false, .slice none 0 0, .slice none 0 0, .int .u64 0] 47)).heap[w.heap.size + 1 + 1]? = some (.cells #[.int .i64 0, .int .i64 0, .string ⟨#[]⟩, .bool false, .slice none 0 0, .slice none 0 0, .int .u64 0] 47 (0, 0))) := hide (by have := heap_alloc_new ((w.alloc (.cells #[.int .u8 5, .int .i64 t, .string key, .string to, .string val] 40)).alloc (.cells #[.int .i64 0, .int .i64 0, .string ⟨#[]⟩, .bool false, .slice none 0 0, .slice none 0 0, .int .u64 0] 47)) (.cells #[.int .i64 0, .int .i64 0, .string ⟨#[]⟩, .bool false, .slice none 0 0, .slice none 0 0, .int .u64 0] 47); rw [hsz2] at this; exact this)
  clear h ht hsz1 hsz2
  go_enter Tryz.func19, Tryz.ntmps19
  go_wp2_with fail
  refine HC.out.mono ?_
  rintro e w1 ⟨rfl, hM, hF⟩
  have HM1 := hide hM
  have HF1 := hide hF
  have HW4 : Hid (w1.heap[w.heap.size + 1]? = some (.cells #[.int .i64 0, .int .i64 0, .string ⟨#[]⟩, .bool false, .slice none 0 0, .slice none 0 0, .int .u64 0] 47 (0, 0))) := hide ((hF.block _ (heap_lt HV4.out) (fun hn => hn (.inr ⟨by omega, by have := HSV.out; omega⟩))).trans HV4.out)
  have HW5 : Hid (w1.heap[w.heap.size + 1 + 1]? = some (.cells #[.int .i64 0, .int .i64 0, .string ⟨#[]⟩, .bool false, .slice none 0 0, .slice none 0 0, .int .u64 0] 47 (0, 0))) := hide ((hF.block _ (heap_lt HV5.out) (fun hn => hn (.inr ⟨by omega, by have := HSV.out; omega⟩))).trans HV5.out)
  clear hM hF HC
  have HX : Hid (∀ i, (w.heap.size ≤ i ∧ i < (((w.alloc (.cells #[.int .u8 5, .int .i64 t, .string key, .string to, .string val] 40)).alloc (.cells #[.int .i64 0, .int .i64 0, .string ⟨#[]⟩, .bool false, .slice none 0 0, .slice none 0 0, .int .u64 0] 47)).alloc (.cells #[.int .i64 0, .int .i64 0, .string ⟨#[]⟩, .bool false, .slice none 0 0, .slice none 0 0, .int .u64 0] 47)).heap.size) → (X i ∨ (w.heap.size ≤ i ∧ i < (((w.alloc (.cells #[.int .u8 5, .int .i64 t, .string key, .string to, .string val] 40)).alloc (.cells #[.int .i64 0, .int .i64 0, .string ⟨#[]⟩, .bool false, .slice none 0 0, .slice none 0 0, .int .u64 0] 47)).alloc (.cells #[.int .i64 0, .int .i64 0, .string ⟨#[]⟩, .bool false, .slice none 0 0, .slice none 0 0, .int .u64 0] 47)).heap.size))) := hide (fun i hi => .inr hi)
  have HX0 : Hid (∀ i, X i → (X i ∨ (w.heap.size ≤ i ∧ i < (((w.alloc (.cells #[.int .u8 5, .int .i64 t, .string key, .string to, .string val] 40)).alloc (.cells #[.int .i64 0, .int .i64 0, .string ⟨#[]⟩, .bool false, .slice none 0 0, .slice none 0 0, .int .u64 0] 47)).alloc (.cells #[.int .i64 0, .int .i64 0, .string ⟨#[]⟩, .bool false, .slice none 0 0, .slice none 0 0, .int .u64 0] 47)).heap.size))) := hide (fun i hi => .inl hi)
  have a0 : w1.cell? ⟨w.heap.size + 1 + 1, 0, none⟩ = some (.int .i64 0) := cell_blk HW5.out rfl
  have b0 : w1.cell? ⟨w.heap.size + 1, 0, none⟩ = some (.int .i64 0) := cell_blk HW4.out rfl
  have g0 : w1.frozen? ⟨w.heap.size + 1, 0, none⟩ = false := frz HW4.out 0
  have a1 : w1.cell? ⟨w.heap.size + 1 + 1, 1, none⟩ = some (.int .i64 0) := cell_blk HW5.out rfl
  have b1 : w1.cell? ⟨w.heap.size + 1, 1, none⟩ = some (.int .i64 0) := cell_blk HW4.out rfl
  have g1 : w1.frozen? ⟨w.heap.size + 1, 1, none⟩ = false := frz HW4.out 1
  have a2 : w1.cell? ⟨w.heap.size + 1 + 1, 2, none⟩ = some (.string ⟨#[]⟩) := cell_blk HW5.out rfl
  have b2 : w1.cell? ⟨w.heap.size + 1, 2, none⟩ = some (.string ⟨#[]⟩) := cell_blk HW4.out rfl
  have g2 : w1.frozen? ⟨w.heap.size + 1, 2, none⟩ = false := frz HW4.out 2
  have a3 : w1.cell? ⟨w.heap.size + 1 + 1, 3, none⟩ = some (.bool false) := cell_blk HW5.out rfl
  have b3 : w1.cell? ⟨w.heap.size + 1, 3, none⟩ = some (.bool false) := cell_blk HW4.out rfl
  have g3 : w1.frozen? ⟨w.heap.size + 1, 3, none⟩ = false := frz HW4.out 3
  have a4 : w1.cell? ⟨w.heap.size + 1 + 1, 4, none⟩ = some (.slice none 0 0) := cell_blk HW5.out rfl
  have b4 : w1.cell? ⟨w.heap.size + 1, 4, none⟩ = some (.slice none 0 0) := cell_blk HW4.out rfl
  have g4 : w1.frozen? ⟨w.heap.size + 1, 4, none⟩ = false := frz HW4.out 4
  have a5 : w1.cell? ⟨w.heap.size + 1 + 1, 5, none⟩ = some (.slice none 0 0) := cell_blk HW5.out rfl
  have b5 : w1.cell? ⟨w.heap.size + 1, 5, none⟩ = some (.slice none 0 0) := cell_blk HW4.out rfl
  have g5 : w1.frozen? ⟨w.heap.size + 1, 5, none⟩ = false := frz HW4.out 5
  have a6 : w1.cell? ⟨w.heap.size + 1 + 1, 6, none⟩ = some (.int .u64 0) := cell_blk HW5.out rfl
  have b6 : w1.cell? ⟨w.heap.size + 1, 6, none⟩ = some (.int .u64 0) := cell_blk HW4.out rfl
  have g6 : w1.frozen? ⟨w.heap.size + 1, 6, none⟩ = false := frz HW4.out 6
  have f0 : w1.frozen? ⟨w.heap.size + 1 + 1, 0, none⟩ = false := frz HW5.out 0
  have HT : Hid (((((((((w1.setCell ⟨w.heap.size + 1 + 1, 0, none⟩ (.int .i64 (mWrite ms t ⟨key, ⟨#[]⟩, true⟩).2)).setCell ⟨w.heap.size + 1, 0, none⟩ (.int .i64 (mWrite ms t ⟨key, ⟨#[]⟩, true⟩).2)).setCell ⟨w.heap.size + 1, 1, none⟩ (.int .i64 0)).setCell ⟨w.heap.size + 1, 2, none⟩ (.string ⟨#[]⟩)).setCell ⟨w.heap.size + 1, 3, none⟩ (.bool false)).setCell ⟨w.heap.size + 1, 4, none⟩ (.slice none 0 0)).setCell ⟨w.heap.size + 1, 5, none⟩ (.slice none 0 0)).setCell ⟨w.heap.size + 1, 6, none⟩ (.int .u64 0)).heap[w.heap.size + 1]? = some (.cells #[.int .i64 (mWrite ms t ⟨key, ⟨#[]⟩, true⟩).2, .int .i64 0, .string ⟨#[]⟩, .bool false, .slice none 0 0, .slice none 0 0, .int .u64 0] 47 (0, 0))) := hide (by
    have p0 : (w1.setCell ⟨w.heap.size + 1 + 1, 0, none⟩ (.int .i64 (mWrite ms t ⟨key, ⟨#[]⟩, true⟩).2)).heap[w.heap.size + 1]? = some (.cells #[.int .i64 0, .int .i64 0, .string ⟨#[]⟩, .bool false, .slice none 0 0, .slice none 0 0, .int .u64 0] 47 (0, 0)) := (Below.heap_setCell _ _ _ _ (by simp)).trans (HW4.out)
    have p1 := blk_set2 (j := 0) p0 (.int .i64 (mWrite ms t ⟨key, ⟨#[]⟩, true⟩).2)
    have p2 := blk_set2 (j := 1) p1 (.int .i64 0)
    have p3 := blk_set2 (j := 2) p2 (.string ⟨#[]⟩)
    have p4 := blk_set2 (j := 3) p3 (.bool false)
    have p5 := blk_set2 (j := 4) p4 (.slice none 0 0)
    have p6 := blk_set2 (j := 5) p5 (.slice none 0 0)
    have p7 := blk_set2 (j := 6) p6 (.int .u64 0)
    simpa using p7)
  have HFE : Hid (Frm (fun i => ¬ X i) w ((((((((w1.setCell ⟨w.heap.size + 1 + 1, 0, none⟩ (.int .i64 (mWrite ms t ⟨key, ⟨#[]⟩, true⟩).2)).setCell ⟨w.heap.size + 1, 0, none⟩ (.int .i64 (mWrite ms t ⟨key, ⟨#[]⟩, true⟩).2)).setCell ⟨w.heap.size + 1, 1, none⟩ (.int .i64 0)).setCell ⟨w.heap.size + 1, 2, none⟩ (.string ⟨#[]⟩)).setCell ⟨w.heap.size + 1, 3, none⟩ (.bool false)).setCell ⟨w.heap.size + 1, 4, none⟩ (.slice none 0 0)).setCell ⟨w.heap.size + 1, 5, none⟩ (.slice none 0 0)).setCell ⟨w.heap.size + 1, 6, none⟩ (.int .u64 0)) ∧ Mn X ((((((((w1.setCell ⟨w.heap.size + 1 + 1, 0, none⟩ (.int .i64 (mWrite ms t ⟨key, ⟨#[]⟩, true⟩).2)).setCell ⟨w.heap.size + 1, 0, none⟩ (.int .i64 (mWrite ms t ⟨key, ⟨#[]⟩, true⟩).2)).setCell ⟨w.heap.size + 1, 1, none⟩ (.int .i64 0)).setCell ⟨w.heap.size + 1, 2, none⟩ (.string ⟨#[]⟩)).setCell ⟨w.heap.size + 1, 3, none⟩ (.bool false)).setCell ⟨w.heap.size + 1, 4, none⟩ (.slice none 0 0)).setCell ⟨w.heap.size + 1, 5, none⟩ (.slice none 0 0)).setCell ⟨w.heap.size + 1, 6, none⟩ (.int .u64 0)) g (mWrite ms t ⟨key, ⟨#[]⟩, true⟩).1) := hide (by
    have h0 : Frm (fun i => ¬ X i) w w1 := ⟨by rw [HF1.out.os]; exact HB.out.os, by rw [HF1.out.tape]; exact HB.out.tape, by rw [HF1.out.output]; exact HB.out.output, Nat.le_trans HB.out.size HF1.out.size, fun i hi hn => (HF1.out.block i (Nat.lt_of_lt_of_le hi HB.out.size) (fun hq => hq (.inl (Classical.not_not.1 hn)))).trans (HB.out.block i hi)⟩
    have hx5 : w.heap.size ≤ w.heap.size + 1 + 1 ∧ w.heap.size + 1 + 1 < (((w.alloc (.cells #[.int .u8 5, .int .i64 t, .string key, .string to, .string val] 40)).alloc (.cells #[.int .i64 0, .int .i64 0, .string ⟨#[]⟩, .bool false, .slice none 0 0, .slice none 0 0, .int .u64 0] 47)).alloc (.cells #[.int .i64 0, .int .i64 0, .string ⟨#[]⟩, .bool false, .slice none 0 0, .slice none 0 0, .int .u64 0] 47)).heap.size := ⟨by omega, by have := HSV.out; omega⟩
    have hx4 : w.heap.size ≤ w.heap.size + 1 ∧ w.heap.size + 1 < (((w.alloc (.cells #[.int .u8 5, .int .i64 t, .string key, .string to, .string val] 40)).alloc (.cells #[.int .i64 0, .int .i64 0, .string ⟨#[]⟩, .bool false, .slice none 0 0, .slice none 0 0, .int .u64 0] 47)).alloc (.cells #[.int .i64 0, .int .i64 0, .string ⟨#[]⟩, .bool false, .slice none 0 0, .slice none 0 0, .int .u64 0] 47)).heap.size := ⟨by omega, by have := HSV.out; omega⟩
    exact ⟨(Frm.setFar (Frm.setFar (Frm.setFar (Frm.setFar (Frm.setFar (Frm.setFar (Frm.setFar (Frm.setFar h0 (by simp; omega) _) (by simp) _) (by simp) _) (by simp) _) (by simp) _) (by simp) _) (by simp) _) (by simp) _), Mn.mono (Mn.setX (Mn.setX (Mn.setX (Mn.setX (Mn.setX (Mn.setX (Mn.setX (Mn.setX HM1.out (HX.out _ hx5) _) (HX.out _ hx4) _) (HX.out _ hx4) _) (HX.out _ hx4) _) (HX.out _ hx4) _) (HX.out _ hx4) _) (HX.out _ hx4) _) (HX.out _ hx4) _) (fun i hi => HX0.out i hi)⟩)
  clear HM1 HF1 HV4 HV5 HW4 HW5 HM HB HSV
  go_wp2
  refine bodyPost_ret (results_cell_row (P := Tryz.prog) (p := 4) (ty := 47) rfl _ _ _ 47 _ (0, 0) _ rfl HT.out Tryz.underlying47 rfl (by kernel_rfl)) rfl ?_
  exact ⟨rfl, HFE.out.2, HFE.out.1⟩
end Go.Proofs.YtlkmcbelmldleaaGreat
/- a transaction that is alone -/
namespace Go.Proofs.YtlkmcbelmldleaaGreat
open Go.RowKit
set_option maxRecDepth 40000
/-- the versions that New makes -/
def vsN (l : List Pr) : List Vr := putL 1 [] (l.map wtOf)
theorem rise_srt {l : List Pr} (h : riseB l = true) : SrtW (l.map wtOf) := by
  unfold SrtW
  rw [List.pairwise_map, List.pairwise_iff_getElem]
  have hadj : ∀ i (hi : i + 1 < l.length), Op.bytesLess (l[i]'(by omega)).key.toList (l[i + 1]).key.toList = true := by
    intro i hi
    have := List.all_eq_true.1 h (i + 1) (List.mem_range.2 hi)
    unfold riseAt at this
    rw [List.getD_eq_getElem?_getD, List.getD_eq_getElem?_getD, Nat.add_sub_cancel, List.getElem?_eq_getElem (by omega), List.getElem?_eq_getElem hi] at this
    simpa using this
  intro i j hi hj hij
  obtain ⟨d, rfl⟩ : ∃ d, j = i + d + 1 := ⟨j - i - 1, by omega⟩
  clear hij
  induction d with
  | zero => exact hadj i hj
  | succ d ih => exact less_trans _ _ _ (ih (by omega)) (hadj (i + d + 1) (by omega))
theorem srt_twice {ws : List Wt} (h : SrtW ws) : twiceB ws = false := by
  unfold twiceB
  have : (ws.map (fun x => x.key.toList)).Nodup := by
    rw [List.Nodup, List.pairwise_map]
    exact h.imp (fun hlt e => by rw [e, less_irrefl] at hlt; cases hlt)
  simp [this]
theorem new_ref {l : List Pr} (h : newE l = 0) : refE 1 [] (l.map wtOf) 1 = 0 := by
  unfold newE at h
  split at h
  · next h1 =>
    rcases h1 with h1 | h1 <;> rw [h1] at h <;> cases h
  · next h1 =>
    split at h
    · next hr =>
      have e : ∀ r, refE 1 [] (l.map wtOf) 1 = r → ¬ r = 0 → (putR 1 [] (l.map wtOf) 1).2.2 = r := fun r hr h0 => by
        unfold putR; rw [if_neg (by rw [hr]; exact h0)]; exact hr
      have ht := srt_twice (rise_srt hr)
      by_cases h2 : 4096 < (l.map wtOf).length
      · exact absurd (.inl (e 3 (by unfold refE; rw [if_pos (by simp [goodB]), if_pos h2]) (by decide))) h1
      · cases h3 : (l.map wtOf).any longB
        · unfold refE
          rw [if_pos (by simp [goodB]), if_neg h2, h3, ht]
          simp [timeB]
          simpa using h2
        · exact absurd (.inr (e 4 (by unfold refE; rw [if_pos (by simp [goodB]), if_neg h2, h3]; simp) (by decide))) h1
    · cases h
theorem new_M {l : List Pr} (h : newE l = 0) : newM l = ⟨1, vsN l, 1, 0, []⟩ := by
  unfold newM putR
  rw [if_pos (new_ref h)]
  rfl
theorem vsN_good {l : List Pr} (h : newE l = 0) : goodB 1 (vsN l) = true := put_good (new_ref h)
/-- the manager of one that is alone -/
def aM (vs : List Vr) (tr : Tr) : Mg := ⟨1, vs, 1, 1, [(1, tr)]⟩
def rdT (tr : Tr) (k : ByteArray) : Tr := if gotE tr k = 0 then tr.read (k, k ++ ⟨#[0]⟩) else tr
def rdV (vs : List Vr) (tr : Tr) (k : ByteArray) : ByteArray × Bool × Int := if gotE tr k = 0 then gotV (aM vs tr) tr k else (⟨#[]⟩, false, gotE tr k)
theorem wroteTr_same (tr : Tr) (x : Wt) : (wroteTr tr x).began = tr.began ∧ (wroteTr tr x).reads = tr.reads := by
  unfold wroteTr
  split <;> exact ⟨rfl, rfl⟩
theorem wrote_long {tr : Tr} {x : Wt} (h : tr.ws.any longB = false) : (wroteTr tr x).ws.any longB = false := by
  unfold wroteTr
  split
  · next h0 =>
    show (putW tr.ws x).any longB = false
    rw [List.any_eq_false]
    intro y hy
    rcases mem_putW.1 hy with rfl | ⟨hy, _⟩
    · unfold wrote at h0
      split at h0
      · cases h0
      · next hn =>
        unfold longB
        simp at hn ⊢
        omega
    · exact List.any_eq_false.1 h y hy
  · exact h
theorem wrote_srt {tr : Tr} {x : Wt} (h : SrtW tr.ws) : SrtW (wroteTr tr x).ws := by
  unfold wroteTr
  split
  · exact putW_srt h x
  · exact h
end Go.Proofs.YtlkmcbelmldleaaGreat
/- slices.SortFunc of pairs, laid -/
namespace Go.Proofs
open Go.Shelf
def Tryz.sortP_ren : Go.Shelf.Ren := ⟨fun | 6 => 87 | 15 => 98 | 14 => 115 | 28 => 135 | 29 => 136 | 20 => 159 | 21 => 160 | 22 => 161 | 23 => 162 | 24 => 163 | 25 => 164 | 26 => 165 | 27 => 166 | 46 => 181 | 47 => 170 | 48 => 171 | 49 => 182 | 50 => 183 | 57 => 188 | n => n, fun | 22 => 22 | 24 => 62 | 25 => 163 | 3 => 3 | 39 => 172 | 0 => 0 | 53 => 205 | 55 => 29 | 4 => 4 | 46 => 198 | 45 => 197 | 50 => 202 | 5 => 5 | 9 => 9 | 66 => 227 | 70 => 230 | 76 => 239 | 77 => 240 | n => n, fun | n => n⟩
theorem Tryz.sortP : Go.Proofs.SlLaysF0.n6 Tryz.prog Tryz.sortP_ren := {
  mixed := by kernel_rfl
  f6 := ⟨Tryz.f87.name, by decide, Tryz.func87.trans (congrArg some (by kernel_rfl))⟩
  f14 := ⟨Tryz.f115.name, by decide, Tryz.func115.trans (congrArg some (by kernel_rfl))⟩
  f15 := Tryz.func98.trans (congrArg some (by kernel_rfl))
  f20 := ⟨Tryz.f159.name, by decide, Tryz.func159.trans (congrArg some (by kernel_rfl))⟩
  f21 := ⟨Tryz.f160.name, by decide, Tryz.func160.trans (congrArg some (by kernel_rfl))⟩
  f22 := ⟨Tryz.f161.name, by decide, Tryz.func161.trans (congrArg some (by kernel_rfl))⟩
  f23 := ⟨Tryz.f162.name, by decide, Tryz.func162.trans (congrArg some (by kernel_rfl))⟩
  f24 := ⟨Tryz.f163.name, by decide, Tryz.func163.trans (congrArg some (by kernel_rfl))⟩
  f25 := ⟨Tryz.f164.name, by decide, Tryz.func164.trans (congrArg some (by kernel_rfl))⟩
  f26 := ⟨Tryz.f165.name, by decide, Tryz.func165.trans (congrArg some (by kernel_rfl))⟩
  f27 := ⟨Tryz.f166.name, by decide, Tryz.func166.trans (congrArg some (by kernel_rfl))⟩
  f28 := Tryz.func135.trans (congrArg some (by kernel_rfl))
  f29 := Tryz.func136.trans (congrArg some (by kernel_rfl))
  f46 := ⟨Tryz.f181.name, by decide, Tryz.func181.trans (congrArg some (by kernel_rfl))⟩
  f47 := Tryz.func170.trans (congrArg some (by kernel_rfl))
  f48 := Tryz.func171.trans (congrArg some (by kernel_rfl))
  f49 := ⟨Tryz.f182.name, by decide, Tryz.func182.trans (congrArg some (by kernel_rfl))⟩
  f50 := ⟨Tryz.f183.name, by decide, Tryz.func183.trans (congrArg some (by kernel_rfl))⟩
  f57 := ⟨Tryz.f188.name, by decide, Tryz.func188.trans (congrArg some (by kernel_rfl))⟩
  t0 := Tryz.underlying0
  a0 := Tryz.isAgg0
  z0 := Tryz.sizeOf0
  v0 := Tryz.zeroValue0
  t3 := Tryz.underlying3
  a3 := Tryz.isAgg3
  z3 := Tryz.sizeOf3
  v3 := Tryz.zeroValue3
  t4 := Tryz.underlying4
  a4 := Tryz.isAgg4
  z4 := Tryz.sizeOf4
  v4 := Tryz.zeroValue4
  t5 := Tryz.underlying5
  a5 := Tryz.isAgg5
  z5 := Tryz.sizeOf5
  v5 := Tryz.zeroValue5
  t9 := Tryz.underlying9
  a9 := Tryz.isAgg9
  z9 := Tryz.sizeOf9
  v9 := Tryz.zeroValue9
  t22 := Tryz.underlying22
  a22 := Tryz.isAgg22
  z22 := Tryz.sizeOf22
  v22 := Tryz.zeroValue22
  t25 := Tryz.underlying163
  a25 := Tryz.isAgg163
  z25 := Tryz.sizeOf163
  v25 := Tryz.zeroValue163
  t39 := Tryz.underlying172
  a39 := Tryz.isAgg172
  z39 := Tryz.sizeOf172
  v39 := Tryz.zeroValue172
  t45 := Tryz.underlying197
  a45 := Tryz.isAgg197
  z45 := Tryz.sizeOf197
  v45 := Tryz.zeroValue197
  t46 := Tryz.underlying198
  a46 := Tryz.isAgg198
  z46 := Tryz.sizeOf198
  v46 := Tryz.zeroValue198
  t50 := Tryz.underlying202
  a50 := Tryz.isAgg202
  z50 := Tryz.sizeOf202
  v50 := Tryz.zeroValue202
  t53 := Tryz.underlying205
  a53 := Tryz.isAgg205
  z53 := Tryz.sizeOf205
  v53 := Tryz.zeroValue205
  t55 := Tryz.underlying29
  a55 := Tryz.isAgg29
  z55 := Tryz.sizeOf29
  v55 := Tryz.zeroValue29
  t66 := Tryz.underlying227
  a66 := Tryz.isAgg227
  z66 := Tryz.sizeOf227
  v66 := Tryz.zeroValue227
  t70 := Tryz.underlying230
  a70 := Tryz.isAgg230
  z70 := Tryz.sizeOf230
  v70 := Tryz.zeroValue230
  t76 := Tryz.underlying239
  a76 := Tryz.isAgg239
  z76 := Tryz.sizeOf239
  v76 := Tryz.zeroValue239
  t77 := Tryz.underlying240
  a77 := Tryz.isAgg240
  z77 := Tryz.sizeOf240
  v77 := Tryz.zeroValue240 }
end Go.Proofs
/- sees: what a transaction sees of a span -/
namespace Go.Proofs.YtlkmcbelmldleaaGreat
open Go.RowKit Go.Shelf Go.Lib Go.Sort
open Go.Maps (has size)
set_option maxRecDepth 40000
def cfP (x y : Pr) : Int := Lib.compareBytes x.key.toList y.key.toList
theorem ltP_eq (x y : Pr) : ltOf cfP x y = Op.bytesLess x.key.toList y.key.toList := by
  unfold ltOf cfP
  have := cmpB_lt x.key.toList y.key.toList
  cases hb : Op.bytesLess x.key.toList y.key.toList
  · rw [hb] at this; simp; simp at this; omega
  · exact decide_eq_true (this.2 hb)
theorem swoP : SWO (ltOf cfP) where
  irrefl x := by rw [ltP_eq]; exact less_irrefl _
  trans x y z h1 h2 := by rw [ltP_eq] at *; exact less_trans _ _ _ h1 h2
  ntrans x y z h1 h2 := by rw [ltP_eq] at *; exact le_trans_key h2 h1
set_option maxHeartbeats 1000000 in
theorem sees1_any (x y : Pr) (W : World) : Calls Tryz.prog 88 #[.agg (prc x).toArray, .agg (prc y).toArray] W fun e w' => e = .returned (.int .i64 (cfP x y)) ∧ ∃ q os', w' = grow (W.drewN q) os' := by
  obtain ⟨x1, x3⟩ := x
  obtain ⟨y1, y3⟩ := y
  show Calls Tryz.prog 88 #[.agg #[.string x1, .string x3], .agg #[.string y1, .string y3]] W _
  have HC1 := hide (fun W => cmpS_any x1 y1 W)
  have HCF : Hid (cfP ⟨x1, x3⟩ ⟨y1, y3⟩ = Lib.compareBytes x1.toList y1.toList) := hide rfl
  have HGR : Hid (∃ q os', ((W.alloc (.cells #[.string x1, .string x3] 62)).alloc (.cells #[.string y1, .string y3] 62)) = grow (W.drewN q) os') := hide ⟨0, _, by rw [alloc_eq_grow, alloc_eq_grow, grow_grow]; rfl⟩
  generalize Lib.compareBytes x1.toList y1.toList = c1 at *
  go_enter Tryz.func88, Tryz.ntmps88
  go_wp2_with (first | (go_at_call 66; refine (HC1.out _).mono ?_; rintro e w' ⟨rfl, rfl⟩))
  go_ret
  exact ⟨ret_int HCF.out.symm, HGR.out⟩
theorem flat_lenP (l : List Pr) : (l.flatMap prc).length = l.length * 2 := by
  induction l with
  | nil => rfl
  | cons x r ih => rw [List.flatMap_cons, List.length_append, ih]; simp; omega
/-- slices.SortFunc of pairs -/
theorem sortP_any (base g cap n : Nat) (l : List Pr) (w : World) (hl : l.length = n) (hn : n < 4611686018427387904) (hown : w.ownsRow base 62 2 (.slice (some ⟨g, 0, none⟩) n cap) n (l.flatMap prc)) :
    Calls Tryz.prog 87 #[.slice (some ⟨g, 0, none⟩) n cap, .func (.func 88) #[] #[]] w fun e w' => e = .returned (.tuple #[]) ∧ ∃ l' : List Pr, l'.Perm l ∧ (∀ i j, i < j → j < n → Op.bytesLess (l'.getD j Pr0).key.toList (l'.getD i Pr0).key.toList = false) ∧ w'.ownsRow base 62 2 (.slice (some ⟨g, 0, none⟩) n cap) n (l'.flatMap prc) ∧ w.grownBy w' (some g) := by
  rcases hown.2 with ⟨h, _⟩ | ⟨g', cap', cur, e, hb, hg, h1, h2, h3, h4⟩
  · cases h
  cases e
  letI : Inhabited Pr := ⟨Pr0⟩
  have eg : ∀ args w, (callFunc 88 args).run Tryz.prog w = .ok (.enter 88 args) w := enters_of Tryz.func88 (by kernel_rfl) rfl
  have hH := row_holds prc 2 (fun _ => rfl) hl hg h3 h4
  have hcon := AnyQ.slices_SortFunc Tryz.sortP 2 Tryz.isAgg62 Tryz.sizeOf62 prc (fun _ => rfl) (fun x v hv => by simp at hv; rcases hv with rfl | rfl <;> rfl) cfP swoP 88 #[] g 0 cap l.toArray w eg (fun m os dk _ x y => sees1_any x y _) hH (heap_lt hg) (by rw [List.size_toArray]; omega)
  change Calls Tryz.prog 87 _ _ _ at hcon
  rw [List.size_toArray, hl] at hcon
  refine hcon.mono ?_
  rintro e w' ⟨rfl, d', m, os, hp, hsrt, rfl⟩
  have hsz : d'.toList.length = n := by rw [Array.length_toList, hp.1, List.size_toArray, hl]
  have hd : d' = d'.toList.toArray := by simp
  refine ⟨rfl, d'.toList, ?_, ?_, ?_, sort_grown prc 2 d'⟩
  · have := hp.2.2
    rw [show d'.extract 0 n = d' by rw [← hsz]; simp, show l.toArray.extract 0 n = l.toArray by rw [← hl]; simp] at this
    exact this
  · intro i j hij hj
    have := hsrt i j (Nat.zero_le _) hij hj
    rw [ltP_eq] at this
    have e : ∀ k, d'[k]! = d'.toList.getD k Pr0 := fun k => by
      rw [List.getD_eq_getElem?_getD, Array.getElem?_toList, getElem!_def]
      cases d'[k]? <;> rfl
    rw [e, e] at this
    exact this
  · obtain ⟨cur', q1, q2, q3⟩ := sort_blk prc 2 (fun _ => rfl) (by omega) (n := m) (os := os) d'.toList hg h3 (by omega)
    rw [← hd] at q1
    exact ⟨by rw [flat_lenP, hsz], .inr ⟨g, cap, cur', rfl, hb, q1, h1, h2, q2, by rw [← hsz]; exact q3⟩⟩
theorem sortP_none (a : Option Addr) (c : Nat) (fv : Value) (w : World) : Calls Tryz.prog 87 #[.slice a 0 c, fv] w fun e w' => e = .returned (.tuple #[]) ∧ w' = w := by
  have := AnyF.slices_SortFunc_none { Tryz.sortP with } a c fv w
  change Calls Tryz.prog 87 _ _ _ at this
  exact this

/-- append of one pair to an own row, and where it lies -/
theorem wpList_pr {w : World} {ops : Array Oper} {rest : List Oper} {o : Oper} {a : Act} {Q : Exit → Act → World → Prop} (hgd : o.guard = none) (s x : Operand)
    (ho : o.op = .call { callee := .builtin .append, args := #[s, x], argTypes := #[22, 22] }) (base : Nat) (v : Value) (n : Nat) (xs : List Pr) (hs : a.eval s = v) (hown : w.ownsRow base 62 2 v n (xs.flatMap prc))
    (b : Nat) (y : Pr) (hx : a.eval x = .slice (some ⟨b, 0, none⟩) 1 1) (hB : w.heap[b]? = some (.cells #[.string y.key, .string y.val] 62 (0, 0))) (hb : (n + 1) * 32 ≤ 140737488355328) (hbase : base ≤ w.heap.size)
    (h : ∀ v' w', Hid (w'.ownsRow base 62 2 v' (n + 1) ((xs ++ [y]).flatMap prc) ∧ w.grownBy w' v.ownBlock ∧ (v'.ownBlock = v.ownBlock ∨ v'.ownBlock = some w.heap.size) ∧ Below base w w') → wpList Tryz.prog ops Q rest (a.put o.dst v') w') : wpList Tryz.prog ops Q (o :: rest) a w := by
  obtain ⟨i0, hi, hz0, hz1, hz2⟩ := info_parts info54
  obtain ⟨v', w', hrun, q1, q2, _, q3⟩ := run_append_own_at (w := w) base 22 o.type 62 i0 _ 2 32 Tryz.underlying22 hi hz0 hz1 hz2 rfl (by decide) v n _ hown _ 1 1 (prc y) rfl (prc_news y hB) (prc_one y) (by unfold maxLen; omega) hb hbase
  exact wpList_plain hgd fun K hK => wp_append_eq s x 22 ho hs hx hrun (hK _ _ (h v' w' (hide ⟨by rw [List.flatMap_append]; simpa using q1, q2, q3, (Below.refl _ _).grown q2 hbase (fun k hk => (hown.lt k hk).1)⟩)))
def prOf (x : Wt) : Pr := ⟨x.key, x.val⟩
/-- those that were there and are not written -/
def oldP (ws : List Wt) (bs : List Pr) : List Pr := bs.filter (fun p => !hasW ws p.key)
def seenW (ask : Sp) (x : Wt) : Bool := inSp ask x.key && !x.gone
/-- the first loop: what was there -/
structure Sone (w wr : World) (B : Nat) (ws : List Wt) (bs : List Pr) (k : Nat) (v : Value) (acc : List Pr) : Prop where
  bel : Below B w wr
  row : wr.ownsRow B 62 2 v acc.length (acc.flatMap prc)
  acc : acc = oldP ws (bs.take k)
/-- the second: what is written -/
structure Stwo (w wr : World) (B wb r m : Nat) (D : DataW Value) (ws : List Wt) (ask : Sp) (old : List Pr) (left : Lit → Bool) (cnt : Nat) (v : Value) (acc : List Pr) : Prop where
  rg : wr.ranges Tryz.prog 9 heldR wb r m D left cnt
  row : wr.ownsRow B 62 2 v acc.length (acc.flatMap prc)
  ne : v.ownBlock ≠ some r
  perm : acc.Perm (old ++ ((ws.filter (fun x => !left (kS x.key))).filter (seenW ask)).map prOf)
  sub : ∀ kl, left kl = true → has D kl = true
  bel : Below B w wr
  big : r + 1 ≤ wr.heap.size
set_option maxHeartbeats 8000000 in
theorem sees_any (w : World) (l : Pl) (tr : Tr) (h : IsX w l.p l.wb l.rv tr) (hn : tr.ws.length ≤ 256) (a : Option Addr) (n c : Nat) (bs : List Pr) (hP : IsP w a n c bs) (hn2 : n ≤ 4096) (hks : ∀ p ∈ bs, p.key.size ≤ 256) (ask : Sp) :
    Calls Tryz.prog 57 #[.pointer (some ⟨l.p, 0, none⟩), .slice a n c, .agg #[.string ask.1, .string ask.2]] w fun e w' => ∃ (v : Value) (l' : List Pr), e = .returned v ∧ w'.ownsRow w.heap.size 62 2 v l'.length (l'.flatMap prc) ∧ l'.Perm (oldP tr.ws bs ++ (tr.ws.filter (seenW ask)).map prOf) ∧ (∀ i j, i < j → j < l'.length → Op.bytesLess (l'.getD j Pr0).key.toList (l'.getD i Pr0).key.toList = false) ∧ Below w.heap.size w w' := by
  obtain ⟨s1, s2⟩ := ask
  dsimp only
  have HB0 : Hid (Below w.heap.size w (w.alloc (.cells #[.string s1, .string s2] 127))) := hide ((Below.refl _ w).alloc (Nat.le_refl _) _)
  have HN0 := hide (heap_alloc_new w (.cells #[.string s1, .string s2] 127))
  have HX0 := hide (h.kept (fun i hi => HB0.out.block i (h.lt hi)))
  have HXL : Hid (l.p < w.heap.size ∧ l.wb < w.heap.size) := hide ⟨h.lt (.inl rfl), h.lt (.inr (.inl rfl))⟩
  have HP0 := hide (hP.below HB0.out)
  have HPN := hide hP.1
  have hcm : c ≤ 9223372036854775807 := hP.2.2.1
  have hcap := hP.2.1
  have HS0 : Hid ((w.alloc (.cells #[.string s1, .string s2] 127)).heap.size = w.heap.size + 1) := hide (World.size_alloc _ _)
  have HKS := hide hks
  have hmix := mixed
  clear h hP hks
  generalize hws : tr.ws = ws at *
  have HWS := hide hws
  clear hws
  go_enter Tryz.func57, Tryz.ntmps57
  refine wp_seq_k (fun K hK => ?_)
  have HK := hide hK
  clear hK
  go_wp2_with fail
  refine HK.out _ _ ?_
  clear HK K
  generalize (w.alloc (.cells #[.string s1, .string s2] 127)) = V0 at *
  obtain ⟨B, hB⟩ : ∃ B, B = V0.heap.size := ⟨_, rfl⟩
  have HBE := hide hB
  clear hB
  go_wp2
  go_loopw [16, 7] (fun v16 v7 wr => ∃ (k : Nat) (acc : List Pr) (a7 : Option Addr) (c7 : Nat), k ≤ n ∧ v16 = .int .i64 (k : Nat) ∧ v7 = .slice a7 acc.length c7 ∧ Hid (Sone V0 wr B ws bs k (.slice a7 acc.length c7) acc)) (fun v16 _ _ => n - (intOf v16).toNat)
  case atStart => exact ⟨0, [], none, 0, Nat.zero_le _, rfl, rfl, hide ⟨Below.refl _ _, World.ownsRow_nil _ _ _ _, rfl⟩⟩
  case round =>
    obtain ⟨k, acc, a7, c7, hk, rfl, rfl, HI⟩ := hrel
    have HBw : Hid (Below V0.heap.size V0 wr) := hide (by rw [← HBE.out]; exact HI.out.bel)
    by_cases hlt : k < n
    · obtain ⟨b, off, rfl, hb, z0, z1⟩ := (HP0.out.below HBw.out).2.2.2 k hlt
      have HTK : Hid (oldP ws (bs.take (k + 1)) = oldP ws (bs.take k) ++ (if hasW ws (bs.getD k Pr0).key = true then [] else [bs.getD k Pr0])) := hide (by
        have e : bs.take (k + 1) = bs.take k ++ [bs.getD k Pr0] := by
          rw [List.take_add_one, List.getD_eq_getElem?_getD, List.getElem?_eq_getElem (by rw [HPN.out]; exact hlt)]; rfl
        unfold oldP
        rw [e, List.filter_append]
        generalize bs.getD k Pr0 = y
        cases hq : hasW ws y.key <;> simp [hq])
      have HKB : Hid ((bs.getD k Pr0).key.size ≤ 256) := hide (HKS.out _ (by
        rw [List.getD_eq_getElem?_getD, List.getElem?_eq_getElem (by rw [HPN.out]; exact hlt)]
        exact List.getElem_mem _))
      generalize bs.getD k Pr0 = x at *
      obtain ⟨x1, x2⟩ := x
      dsimp only at z0 z1 HTK HKB
      have hw1 : IntKind.i64.wrap ((k : Int) + 1) = (k : Int) + 1 := wr64' (by omega) (by omega)
      have hi4 : (0 : Int) ≤ (k : Int) := by omega
      have hiI : (k : Int) < (n : Int) := by omega
      have HBG : Hid ((acc.length + 1) * 32 ≤ 140737488355328) := hide (by
        have h1 : acc.length ≤ (bs.take k).length := by rw [HI.out.acc]; exact List.length_filter_le _ _
        have h2 : (bs.take k).length ≤ k := by rw [List.length_take]; omega
        omega)
      have HBp : Hid (Below wr.heap.size wr (wr.alloc (.cells #[.string x1, .string x2] 62))) := hide ((Below.refl _ wr).alloc (Nat.le_refl _) _)
      have HNp := hide (heap_alloc_new wr (.cells #[.string x1, .string x2] 62))
      have HXp := hide ((HX0.out.kept (fun i hi => HBw.out.block i (HX0.out.lt hi))).kept (fun i hi => HBp.out.block i ((HX0.out.kept (fun i hi => HBw.out.block i (HX0.out.lt hi))).lt hi)))
      have HRp : Hid ((wr.alloc (.cells #[.string x1, .string x2] 62)).ownsRow B 62 2 (.slice a7 acc.length c7) acc.length (acc.flatMap prc)) := hide (HI.out.row.alloc _)
      have HBq : Hid (Below B V0 (wr.alloc (.cells #[.string x1, .string x2] 62)) ∧ B ≤ (wr.alloc (.cells #[.string x1, .string x2] 62)).heap.size) := hide (by
        have h1 : B ≤ wr.heap.size := by rw [HBE.out]; exact HBw.out.size
        exact ⟨HI.out.bel.trans (HBp.out.mono h1), Nat.le_trans h1 HBp.out.size⟩)
      go_wp2_with fail
      generalize hpb : wr.heap.size = pb at *
      clear hpb
      generalize (wr.alloc (.cells #[.string x1, .string x2] 62)) = V at *
      obtain ⟨D, hown, hD⟩ := HXp.out.map
      rw [HWS.out] at hown hD
      have HO := hide hown
      have HD := hide hD
      clear hown hD
      cases hhw : hasW ws x1
      · have HS : Hid (∀ W : World, Below V.heap.size V W → W.cell? ⟨l.p, 2, none⟩ = some (.map (some l.wb)) ∧ W.cell? ⟨pb, 0, none⟩ = some (.string x1) ∧ (Instr.lookup 122 (.map (some l.wb)) (.string x1) true).run Tryz.prog W = .ok (.tuple #[atW ws x1, .bool false]) W) := hide (fun W hW => by
          have q1 := hW.block l.p (heap_lt HXp.out.blk)
          have q2 := hW.block pb (heap_lt HNp.out)
          have q3 := hW.block l.wb HO.out.lt
          refine ⟨cell_blk (q1.trans HXp.out.blk) rfl, cell_blk (q2.trans HNp.out) rfl, ?_⟩
          have := look_ws (map_kept HO.out q3) HD.out HKB.out
          rw [hhw] at this
          exact this)
        refine wp_region_last 12 (fun W' : World => W'.cell? ⟨l.p, 2, none⟩ = some (.map (some l.wb)) ∧ W'.cell? ⟨pb, 0, none⟩ = some (.string x1) ∧ (Instr.lookup 122 (.map (some l.wb)) (.string x1) true).run Tryz.prog W' = .ok (.tuple #[atW ws x1, .bool false]) W') hmix (HS.out V.drew (Below.refl _ V).drew) (fun hHeld => ?_)
        refine wpAnyL_take (i := 0) (v := ?vf0) rfl (by kernel_rfl) (fun _ _ _ h => h) (by assumption) (by rfl) ?hyf0 ?hnf0
        case hyf0 => (intro w hSw; (try dsimp only at hSw); skip; go_simp; try with_reducible rfl)
        try simp only [Act.put]
        refine wpAnyL_take (i := 1) (v := ?vf1) rfl (by kernel_rfl) (fun _ _ _ h => h) (by assumption) (by rfl) ?hyf1 ?hnf1
        case hyf1 => (intro w hSw; (try dsimp only at hSw); skip; go_simp; try with_reducible rfl)
        try simp only [Act.put]
        refine wpAnyL_take (i := 2) (v := ?vf2) rfl (by kernel_rfl) (fun _ _ _ h => h) (by assumption) (by rfl) ?hyf2 ?hnf2
        case hyf2 => (intro w hSw; (try dsimp only at hSw); skip; go_simp; try with_reducible rfl)
        try simp only [Act.put]
        refine wpAnyL_take (i := 3) (v := ?vf3) rfl (by kernel_rfl) (fun _ _ _ h => h) (by assumption) (by rfl) ?hyf3 ?hnf3
        case hyf3 => (intro w hSw; (try dsimp only at hSw); skip; go_simp; try with_reducible rfl)
        try simp only [Act.put]
        refine wpAnyL_take (i := 4) (v := ?vf4) rfl (by kernel_rfl) (fun _ _ _ h => h) (by assumption) (by rfl) ?hyf4 ?hnf4
        case hyf4 => (intro w hSw; (try dsimp only at hSw); skip; go_simp; try with_reducible rfl)
        try simp only [Act.put]
        refine wpAnyL_take (i := 5) (v := ?vf5) rfl (by kernel_rfl) (fun _ _ _ h => h) (by assumption) (by rfl) ?hyf5 ?hnf5
        case hyf5 => (intro w hSw; (try dsimp only at hSw); skip; go_simp; try with_reducible rfl)
        try simp only [Act.put]
        refine wpAnyL_take (i := 6) (v := ?vf6) rfl (by kernel_rfl) (fun _ _ _ h => h) (by assumption) (by rfl) ?hyf6 ?hnf6
        case hyf6 => (intro w hSw; (try dsimp only at hSw); skip; go_simp; try with_reducible rfl)
        try simp only [Act.put]
        refine wpAnyL_take (i := 7) (v := ?vf7) rfl (by kernel_rfl) (fun _ _ _ h => h) (by assumption) (by rfl) ?hyf7 ?hnf7
        case hyf7 => (intro w hSw; (try dsimp only at hSw); skip; go_simp; try with_reducible rfl)
        try simp only [Act.put]
        refine wpAnyL_take (i := 8) (v := ?vf8) rfl (by kernel_rfl) (fun _ _ _ h => h) (by assumption) (by rfl) ?hyf8 ?hnf8
        case hyf8 => (intro w hSw; (try dsimp only at hSw); skip; go_simp; try with_reducible rfl)
        try simp only [Act.put]
        refine wpAnyL_take (i := 9) (v := ?vf9) rfl (by kernel_rfl) (fun _ _ _ h => h) (by assumption) (by rfl) ?hyf9 ?hnf9
        case hyf9 => (intro w hSw; (try dsimp only at hSw); skip; go_simp; try with_reducible rfl)
        try simp only [Act.put]
        refine wpAnyL_one (i := 10) rfl (by kernel_rfl) (fun K hK => ?_)
        go_simp
        have HBa : Hid (Below V.heap.size V (V.alloc (.cells #[.string ⟨#[]⟩, .string ⟨#[]⟩, .bool false] 64)).drew) := hide ((Below.refl _ V).alloc (Nat.le_refl _) _).drew
        have HNa : Hid ((V.alloc (.cells #[.string ⟨#[]⟩, .string ⟨#[]⟩, .bool false] 64)).drew.heap[V.heap.size]? = some (.cells #[.string ⟨#[]⟩, .string ⟨#[]⟩, .bool false] 64 (0, 0))) := hide (heap_alloc_new V (.cells #[.string ⟨#[]⟩, .string ⟨#[]⟩, .bool false] 64))
        refine hK.out _ _ (HS.out _ HBa.out) (fun hHeld => ?_)
        clear hK K
        try simp only [Act.put]
        generalize (V.alloc (.cells #[.string ⟨#[]⟩, .string ⟨#[]⟩, .bool false] 64)).drew = W2 at *
        have z0 : W2.cell? ⟨V.heap.size, 0, none⟩ = some (.string ⟨#[]⟩) := cell_blk HNa.out rfl
        have z1 : W2.cell? ⟨V.heap.size, 1, none⟩ = some (.string ⟨#[]⟩) := cell_blk HNa.out rfl
        have z2 : W2.cell? ⟨V.heap.size, 2, none⟩ = some (.bool false) := cell_blk HNa.out rfl
        have f0 : W2.frozen? ⟨V.heap.size, 0, none⟩ = false := frz HNa.out 0
        have f1 : W2.frozen? ⟨V.heap.size, 1, none⟩ = false := frz HNa.out 1
        have f2 : W2.frozen? ⟨V.heap.size, 2, none⟩ = false := frz HNa.out 2
        obtain ⟨k0, v0, g0, hat⟩ : ∃ k v gn, atW ws x1 = .agg #[.string k, .string v, .bool gn] := by
          unfold atW
          split
          · exact ⟨_, _, _, rfl⟩
          · exact ⟨_, _, _, rfl⟩
        rw [hat]
        refine wpAnyL_one (i := 11) rfl (by kernel_rfl) (fun K hK => ?_)
        go_simp
        have HBc : Hid (Below V.heap.size V (((W2.setCell ⟨V.heap.size, 0, none⟩ (.string k0)).setCell ⟨V.heap.size, 1, none⟩ (.string v0)).setCell ⟨V.heap.size, 2, none⟩ (.bool g0))) := hide (((HBa.out.setCell (Nat.le_refl _) _).setCell (Nat.le_refl _) _).setCell (Nat.le_refl _) _)
        refine hK.out _ _ (by have := HS.out _ HBc.out; rw [hat] at this; exact this) (fun hHeld => ?_)
        clear hK K z0 z1 z2 f0 f1 f2
        try simp only [Act.put]
        generalize (((W2.setCell ⟨V.heap.size, 0, none⟩ (.string k0)).setCell ⟨V.heap.size, 1, none⟩ (.string v0)).setCell ⟨V.heap.size, 2, none⟩ (.bool g0)) = W3 at *
        refine wpAnyL_last rfl (by kernel_rfl) (by kernel_rfl) (fun K hK => ?_)
        go_simp
        refine hK.out _ _ ?_
        clear hK K hHeld
        have HR3 : Hid (W3.ownsRow B 62 2 (.slice a7 acc.length c7) acc.length (acc.flatMap prc)) := hide (row_kept HRp.out (fun j hj => HBc.out.block j (HRp.out.lt j hj).2))
        have HB3 : Hid (Below B V0 W3 ∧ B ≤ W3.heap.size) := hide ⟨HBq.out.1.trans (HBc.out.mono HBq.out.2), Nat.le_trans HBq.out.2 HBc.out.size⟩
        have HNp3 : Hid (W3.heap[pb]? = some (.cells #[.string x1, .string x2] 62 (0, 0))) := hide ((HBc.out.block pb (heap_lt HNp.out)).trans HNp.out)
        have p0 : W3.cell? ⟨pb, 0, none⟩ = some (.string x1) := cell_blk HNp3.out rfl
        have p1 : W3.cell? ⟨pb, 1, none⟩ = some (.string x2) := cell_blk HNp3.out rfl
        have HR4 : Hid ((W3.alloc (.cells #[.string x1, .string x2] 62)).ownsRow B 62 2 (.slice a7 acc.length c7) acc.length (acc.flatMap prc)) := hide (HR3.out.alloc _)
        have HN4 := hide (heap_alloc_new W3 (.cells #[.string x1, .string x2] 62))
        have HB4 : Hid (Below B V0 (W3.alloc (.cells #[.string x1, .string x2] 62)) ∧ B ≤ (W3.alloc (.cells #[.string x1, .string x2] 62)).heap.size) := hide ⟨HB3.out.1.alloc HB3.out.2 _, by rw [World.size_alloc]; have := HB3.out.2; omega⟩
        go_wp2_with (at_builtin; refine wpList_pr rfl _ _ rfl B (.slice a7 acc.length c7) acc.length acc rfl HR4.out W3.heap.size ⟨x1, x2⟩ rfl HN4.out HBG.out HB4.out.2 ?_)
        intro v9 w9 HN9
        obtain ⟨a9, c9, rfl⟩ := own_form HN9.out.1
        have HNX : Hid (Sone V0 w9 B ws bs (k + 1) (.slice a9 (acc.length + 1) c9) (acc ++ [⟨x1, x2⟩])) := hide ⟨HB4.out.1.trans HN9.out.2.2.2, by
          have e : (acc ++ [(⟨x1, x2⟩ : Pr)]).length = acc.length + 1 := by simp
          rw [e]
          have := HN9.out.1
          simpa using this, by rw [HTK.out, hhw]; simp; exact HI.out.acc⟩
        have HLL : Hid ((acc ++ [(⟨x1, x2⟩ : Pr)]).length = acc.length + 1) := hide (by simp)
        clear HN9 HR4 HN4 HB4 p0 p1 HR3 HB3 HNp3 HBc HRp HBq HXp HO HD HNp
        go_wp2
        go_roundw
        case rel => exact ⟨k + 1, acc ++ [⟨x1, x2⟩], a9, c9, by omega, by simp, by rw [HLL.out], by rw [HLL.out]; exact HNX⟩
        case measure => simp [intOf]; omega
      · have HS : Hid (∀ W : World, Below V.heap.size V W → W.cell? ⟨l.p, 2, none⟩ = some (.map (some l.wb)) ∧ W.cell? ⟨pb, 0, none⟩ = some (.string x1) ∧ (Instr.lookup 122 (.map (some l.wb)) (.string x1) true).run Tryz.prog W = .ok (.tuple #[atW ws x1, .bool true]) W) := hide (fun W hW => by
          have q1 := hW.block l.p (heap_lt HXp.out.blk)
          have q2 := hW.block pb (heap_lt HNp.out)
          have q3 := hW.block l.wb HO.out.lt
          refine ⟨cell_blk (q1.trans HXp.out.blk) rfl, cell_blk (q2.trans HNp.out) rfl, ?_⟩
          have := look_ws (map_kept HO.out q3) HD.out HKB.out
          rw [hhw] at this
          exact this)
        refine wp_region_last 12 (fun W' : World => W'.cell? ⟨l.p, 2, none⟩ = some (.map (some l.wb)) ∧ W'.cell? ⟨pb, 0, none⟩ = some (.string x1) ∧ (Instr.lookup 122 (.map (some l.wb)) (.string x1) true).run Tryz.prog W' = .ok (.tuple #[atW ws x1, .bool true]) W') hmix (HS.out V.drew (Below.refl _ V).drew) (fun hHeld => ?_)
        refine wpAnyL_take (i := 0) (v := ?vt0) rfl (by kernel_rfl) (fun _ _ _ h => h) (by assumption) (by rfl) ?hyt0 ?hnt0
        case hyt0 => (intro w hSw; (try dsimp only at hSw); skip; go_simp; try with_reducible rfl)
        try simp only [Act.put]
        refine wpAnyL_take (i := 1) (v := ?vt1) rfl (by kernel_rfl) (fun _ _ _ h => h) (by assumption) (by rfl) ?hyt1 ?hnt1
        case hyt1 => (intro w hSw; (try dsimp only at hSw); skip; go_simp; try with_reducible rfl)
        try simp only [Act.put]
        refine wpAnyL_take (i := 2) (v := ?vt2) rfl (by kernel_rfl) (fun _ _ _ h => h) (by assumption) (by rfl) ?hyt2 ?hnt2
        case hyt2 => (intro w hSw; (try dsimp only at hSw); skip; go_simp; try with_reducible rfl)
        try simp only [Act.put]
        refine wpAnyL_take (i := 3) (v := ?vt3) rfl (by kernel_rfl) (fun _ _ _ h => h) (by assumption) (by rfl) ?hyt3 ?hnt3
        case hyt3 => (intro w hSw; (try dsimp only at hSw); skip; go_simp; try with_reducible rfl)
        try simp only [Act.put]
        refine wpAnyL_take (i := 4) (v := ?vt4) rfl (by kernel_rfl) (fun _ _ _ h => h) (by assumption) (by rfl) ?hyt4 ?hnt4
        case hyt4 => (intro w hSw; (try dsimp only at hSw); skip; go_simp; try with_reducible rfl)
        try simp only [Act.put]
        refine wpAnyL_take (i := 5) (v := ?vt5) rfl (by kernel_rfl) (fun _ _ _ h => h) (by assumption) (by rfl) ?hyt5 ?hnt5
        case hyt5 => (intro w hSw; (try dsimp only at hSw); skip; go_simp; try with_reducible rfl)
        try simp only [Act.put]
        refine wpAnyL_take (i := 6) (v := ?vt6) rfl (by kernel_rfl) (fun _ _ _ h => h) (by assumption) (by rfl) ?hyt6 ?hnt6
        case hyt6 => (intro w hSw; (try dsimp only at hSw); skip; go_simp; try with_reducible rfl)
        try simp only [Act.put]
        refine wpAnyL_take (i := 7) (v := ?vt7) rfl (by kernel_rfl) (fun _ _ _ h => h) (by assumption) (by rfl) ?hyt7 ?hnt7
        case hyt7 => (intro w hSw; (try dsimp only at hSw); skip; go_simp; try with_reducible rfl)
        try simp only [Act.put]
        refine wpAnyL_take (i := 8) (v := ?vt8) rfl (by kernel_rfl) (fun _ _ _ h => h) (by assumption) (by rfl) ?hyt8 ?hnt8
        case hyt8 => (intro w hSw; (try dsimp only at hSw); skip; go_simp; try with_reducible rfl)
        try simp only [Act.put]
        refine wpAnyL_take (i := 9) (v := ?vt9) rfl (by kernel_rfl) (fun _ _ _ h => h) (by assumption) (by rfl) ?hyt9 ?hnt9
        case hyt9 => (intro w hSw; (try dsimp only at hSw); skip; go_simp; try with_reducible rfl)
        try simp only [Act.put]
        refine wpAnyL_one (i := 10) rfl (by kernel_rfl) (fun K hK => ?_)
        go_simp
        have HBa : Hid (Below V.heap.size V (V.alloc (.cells #[.string ⟨#[]⟩, .string ⟨#[]⟩, .bool false] 64)).drew) := hide ((Below.refl _ V).alloc (Nat.le_refl _) _).drew
        have HNa : Hid ((V.alloc (.cells #[.string ⟨#[]⟩, .string ⟨#[]⟩, .bool false] 64)).drew.heap[V.heap.size]? = some (.cells #[.string ⟨#[]⟩, .string ⟨#[]⟩, .bool false] 64 (0, 0))) := hide (heap_alloc_new V (.cells #[.string ⟨#[]⟩, .string ⟨#[]⟩, .bool false] 64))
        refine hK.out _ _ (HS.out _ HBa.out) (fun hHeld => ?_)
        clear hK K
        try simp only [Act.put]
        generalize (V.alloc (.cells #[.string ⟨#[]⟩, .string ⟨#[]⟩, .bool false] 64)).drew = W2 at *
        have z0 : W2.cell? ⟨V.heap.size, 0, none⟩ = some (.string ⟨#[]⟩) := cell_blk HNa.out rfl
        have z1 : W2.cell? ⟨V.heap.size, 1, none⟩ = some (.string ⟨#[]⟩) := cell_blk HNa.out rfl
        have z2 : W2.cell? ⟨V.heap.size, 2, none⟩ = some (.bool false) := cell_blk HNa.out rfl
        have f0 : W2.frozen? ⟨V.heap.size, 0, none⟩ = false := frz HNa.out 0
        have f1 : W2.frozen? ⟨V.heap.size, 1, none⟩ = false := frz HNa.out 1
        have f2 : W2.frozen? ⟨V.heap.size, 2, none⟩ = false := frz HNa.out 2
        obtain ⟨k0, v0, g0, hat⟩ : ∃ k v gn, atW ws x1 = .agg #[.string k, .string v, .bool gn] := by
          unfold atW
          split
          · exact ⟨_, _, _, rfl⟩
          · exact ⟨_, _, _, rfl⟩
        rw [hat]
        refine wpAnyL_one (i := 11) rfl (by kernel_rfl) (fun K hK => ?_)
        go_simp
        have HBc : Hid (Below V.heap.size V (((W2.setCell ⟨V.heap.size, 0, none⟩ (.string k0)).setCell ⟨V.heap.size, 1, none⟩ (.string v0)).setCell ⟨V.heap.size, 2, none⟩ (.bool g0))) := hide (((HBa.out.setCell (Nat.le_refl _) _).setCell (Nat.le_refl _) _).setCell (Nat.le_refl _) _)
        refine hK.out _ _ (by have := HS.out _ HBc.out; rw [hat] at this; exact this) (fun hHeld => ?_)
        clear hK K z0 z1 z2 f0 f1 f2
        try simp only [Act.put]
        generalize (((W2.setCell ⟨V.heap.size, 0, none⟩ (.string k0)).setCell ⟨V.heap.size, 1, none⟩ (.string v0)).setCell ⟨V.heap.size, 2, none⟩ (.bool g0)) = W3 at *
        refine wpAnyL_last rfl (by kernel_rfl) (by kernel_rfl) (fun K hK => ?_)
        go_simp
        refine hK.out _ _ ?_
        clear hK K hHeld
        have HR3 : Hid (W3.ownsRow B 62 2 (.slice a7 acc.length c7) acc.length (acc.flatMap prc)) := hide (row_kept HRp.out (fun j hj => HBc.out.block j (HRp.out.lt j hj).2))
        have HB3 : Hid (Below B V0 W3 ∧ B ≤ W3.heap.size) := hide ⟨HBq.out.1.trans (HBc.out.mono HBq.out.2), Nat.le_trans HBq.out.2 HBc.out.size⟩
        have HNp3 : Hid (W3.heap[pb]? = some (.cells #[.string x1, .string x2] 62 (0, 0))) := hide ((HBc.out.block pb (heap_lt HNp.out)).trans HNp.out)
        have HNX : Hid (Sone V0 W3 B ws bs (k + 1) (.slice a7 acc.length c7) acc) := hide ⟨HB3.out.1, HR3.out, by rw [HTK.out, hhw]; simp; exact HI.out.acc⟩
        clear HR3 HB3 HNp3 HBc HRp HBq HXp HO HD HNp
        go_wp2
        go_roundw
        case rel => exact ⟨k + 1, acc, a7, c7, by omega, by simp, rfl, HNX⟩
        case measure => simp [intOf]; omega
    · obtain rfl : k = n := by omega
      have hkk : ¬ (k : Int) < (k : Int) := by omega
      have HACC : Hid (acc = oldP ws bs) := hide (by rw [HI.out.acc, ← HPN.out, List.take_length])
      have HXw := hide (HX0.out.kept (fun i hi => HBw.out.block i (HX0.out.lt hi)))
      have c2 : wr.cell? ⟨l.p, 2, none⟩ = some (.map (some l.wb)) := cell_blk HXw.out.blk rfl
      obtain ⟨D, hown, hD⟩ := HXw.out.map
      rw [HWS.out] at hown hD
      have HD := hide hD
      clear hD
      have HAL : Hid (acc.length ≤ 4096) := hide (by
        rw [HACC.out]
        have h1 := List.length_filter_le (fun p : Pr => !hasW ws p.key) bs
        rw [HPN.out] at h1
        exact Nat.le_trans h1 hn2)
      have HNw : Hid (wr.heap[w.heap.size]? = some (.cells #[.string s1, .string s2] 127 (0, 0))) := hide ((HBw.out.block _ (heap_lt HN0.out)).trans HN0.out)
      have HWL : Hid (l.wb < w.heap.size) := hide HXL.out.2
      generalize hm : ws.length = m at *
      have HM := hide hm
      clear hm
      generalize l.wb = wb at *
      go_wp2_with (at_range; refine wpList_range_own _ rfl _ 122 rfl 9 64 kstr Tryz.underlying122 heldR wb m D rfl hown ?_)
      intro w0 hrg0 hg0 hs0
      have HSZ0 : Hid (w.heap.size + 1 ≤ B ∧ B ≤ wr.heap.size) := hide ⟨by rw [HBE.out, HS0.out]; omega, by rw [HBE.out]; exact HBw.out.size⟩
      generalize hr : wr.heap.size = r at *
      have HR := hide hr
      have H0 : Hid (Stwo V0 w0 B wb r m D ws (s1, s2) (oldP ws bs) (has D) (size D) (.slice a7 acc.length c7) acc) := hide ⟨hrg0, row_kept HI.out.row (fun j hj => hg0.block j ((HI.out.row.lt j hj).2) (by simp)), fun e => by have := (HI.out.row.lt r e).2; omega, by
        have e0 : ws.filter (fun x => !(has D) (kS x.key)) = [] := List.filter_eq_nil_iff.2 (fun x hx => by simp [(HD.out.all x hx).1])
        rw [e0, HACC.out]
        simp, fun _ h => h, HI.out.bel.trans ⟨hg0.os, hg0.tape, hg0.output, hg0.size, fun j hj => hg0.block j (by have := HSZ0.out; omega) (by simp)⟩, by omega⟩
      have HNx0 : Hid (w0.heap[w.heap.size]? = some (.cells #[.string s1, .string s2] 127 (0, 0))) := hide ((hg0.block _ (heap_lt HNw.out) (by simp)).trans HNw.out)
      clear hrg0 hg0 hs0 hown c2 hr
      go_wp2_with fail
      try go_frame
      go_loopw [7] (fun v7 wq => ∃ (left : Lit → Bool) (cnt : Nat) (ac : List Pr) (aa : Option Addr) (cc : Nat), v7 = .slice aa ac.length cc ∧ Hid (Stwo V0 wq B wb r m D ws (s1, s2) (oldP ws bs) left cnt (.slice aa ac.length cc) ac)) (fun _ wq => wq.rangeLeft wb r)
      case atStart => exact ⟨_, _, acc, a7, c7, rfl, H0⟩
      case round =>
        obtain ⟨left, cnt, ac, aa, cc, rfl, HS⟩ := hrel
        clear H0
        have hrg := HS.out.rg
        have hle := HS.out.rg.left_eq
        have HNq : Hid (wr.heap[w.heap.size]? = some (.cells #[.string s1, .string s2] 127 (0, 0))) := hide (((HS.out.bel.block w.heap.size (by have := HSZ0.out; omega))).trans HN0.out)
        go_wp2_with (at_next; refine wpList_next_ranges _ rfl _ rfl 9 kstr heldR Value.string (fun v : Value => v) (fun key kl hkey => by obtain ⟨x, rfl, _⟩ := key_str_inv hkey; exact ⟨x, rfl⟩) (fun v y _ => ⟨v, rfl⟩) wb r m D left cnt rfl hrg ?_ ?_)
        · intro hc0 hl0
          have HAC : Hid (ac.Perm (oldP ws bs ++ (ws.filter (seenW (s1, s2))).map prOf)) := hide (by
            have := HS.out.perm
            have e0 : ws.filter (fun x => !left (kS x.key)) = ws := List.filter_eq_self.2 (fun x _ => by simp [hl0])
            rw [e0] at this
            exact this)
          have HROW := hide HS.out.row
          have HBL : Hid (Below B V0 wr ∧ B ≤ wr.heap.size) := hide ⟨HS.out.bel, by have := HS.out.big; have := HSZ0.out; omega⟩
          have HACL : Hid (ac.length ≤ 8192) := hide (by
            have h1 := HAC.out.length_eq
            have h2 := List.length_filter_le (fun p : Pr => !hasW ws p.key) bs
            have h3 := List.length_filter_le (seenW (s1, s2)) ws
            rw [HPN.out] at h2
            rw [HM.out] at h3
            unfold oldP at h1
            simp only [List.length_append, List.length_map] at h1
            omega)
          clear hrg hl0 hle HS
          obtain ⟨q, hq⟩ : ∃ q, ac.length = q := ⟨_, rfl⟩
          have HQ := hide hq
          rw [hq] at HROW HACL ⊢
          clear hq
          rcases HROW.out.2 with ⟨e0, _⟩ | ⟨g, cp, cur, e0, hg, _⟩
          · simp only [Value.slice.injEq] at e0
            obtain ⟨rfl, rfl, rfl⟩ := e0
            have HW0 : Hid (ac = []) := hide (List.eq_nil_of_length_eq_zero HQ.out)
            go_wp2_with fail
            refine (sortP_none none _ _ wr).mono ?_
            rintro e w2 ⟨rfl, rfl⟩
            go_wp2
            go_ret
            exact ⟨_, [], rfl, World.ownsRow_nil _ _ _ _, by rw [← HW0.out]; exact HAC.out, fun i j _ h => absurd h (Nat.not_lt_zero _), HB0.out.trans (HBL.out.1.mono (by have := HSZ0.out; omega))⟩
          · simp only [Value.slice.injEq] at e0
            obtain ⟨rfl, _, rfl⟩ := e0
            have HSO := hide (sortP_any B g cc q ac wr HQ.out (by have := HACL.out; omega) HROW.out)
            have HG := hide hg
            clear hg
            go_wp2_with fail
            refine HSO.out.mono ?_
            rintro e w2 ⟨rfl, l', q1, q2, q3, q4⟩
            have HLE : Hid (l'.length = q) := hide (q1.length_eq.trans HQ.out)
            have H9 : Hid (w2.ownsRow w.heap.size 62 2 (.slice (some ⟨g, 0, none⟩) q cc) l'.length (l'.flatMap prc) ∧ l'.Perm (oldP ws bs ++ (ws.filter (seenW (s1, s2))).map prOf) ∧ (∀ i j, i < j → j < l'.length → Op.bytesLess (l'.getD j Pr0).key.toList (l'.getD i Pr0).key.toList = false) ∧ Below w.heap.size w w2) := hide ⟨by rw [HLE.out]; exact row_mono q3 (by have := HSZ0.out; omega), q1.trans HAC.out, by rw [HLE.out]; exact q2, HB0.out.trans ((HBL.out.1.trans ((Below.refl _ wr).grown q4 HBL.out.2 (fun k e => by cases e; exact HG.out))).mono (by have := HSZ0.out; omega))⟩
            clear q1 q2 q3 q4 HSO
            go_wp2
            go_ret
            exact ⟨_, l', rfl, H9.out.1, H9.out.2.1, H9.out.2.2.1, H9.out.2.2.2⟩
        · intro x c kl y1 y2 w1 cnt1 hkey hlk hv hat hrg1 hlt hg1 hs1 hen
          obtain ⟨z, hz, rfl⟩ := HD.out.just kl (HS.out.sub kl hlk)
          have hcv : c = wv z := by
            have e1 := (HD.out.all z hz).2 (.held c)
            rw [hat] at e1
            unfold heldR at hv
            cases hv
            cases e1
            rfl
          subst hcv
          have HB1 : Hid (Below B V0 w1 ∧ B ≤ w1.heap.size ∧ r + 1 ≤ w1.heap.size) := hide (by
            have h1 := HS.out.big
            have h2 := HSZ0.out
            exact ⟨HS.out.bel.trans ((Below.refl _ wr).grown hg1 (by omega) (fun k e => by cases e; omega)), by omega, by omega⟩)
          have HR1 : Hid (w1.ownsRow B 62 2 (.slice aa ac.length cc) ac.length (ac.flatMap prc)) := hide (row_kept HS.out.row (fun j hj => hg1.block j ((HS.out.row.lt j hj).2) (fun e => by cases e; exact HS.out.ne hj)))
          have HNE := hide HS.out.ne
          have HN1 : Hid (w1.heap[w.heap.size]? = some (.cells #[.string s1, .string s2] 127 (0, 0))) := hide ((hg1.block _ (heap_lt HNq.out) (by have := HSZ0.out; simp; omega)).trans HNq.out)
          have HPS := hide ((perm_strike left z hlk ws HD.out.srt hz).filter (seenW (s1, s2)))
          have HPM := hide HS.out.perm
          have HSU : Hid (∀ q, (left q && !q.sameKey (kS z.key)) = true → has D q = true) := hide (fun q hq => HS.out.sub q (by simp at hq; exact hq.1))
          have HRG := hide hrg1
          have HACL : Hid ((ac.length + 1) * 32 ≤ 140737488355328) := hide (by
            have h1 := HS.out.perm.length_eq
            have h2 := List.length_filter_le (fun p : Pr => !hasW ws p.key) bs
            have h3 := List.length_filter_le (seenW (s1, s2)) (ws.filter (fun x => !left (kS x.key)))
            have h4 := List.length_filter_le (fun x : Wt => !left (kS x.key)) ws
            rw [HPN.out] at h2
            rw [HM.out] at h4
            unfold oldP at h1
            simp only [List.length_append, List.length_map] at h1
            omega)
          obtain ⟨z1, z2, z3⟩ := z
          have HBz : Hid (Below w1.heap.size w1 (w1.alloc (.cells #[.string z1, .string z2, .bool z3] 64))) := hide ((Below.refl _ w1).alloc (Nat.le_refl _) _)
          have HNz := hide (heap_alloc_new w1 (.cells #[.string z1, .string z2, .bool z3] 64))
          have HSH := hide (span_has (w1.alloc (.cells #[.string z1, .string z2, .bool z3] 64)) (s1, s2) z1)
          have HAz := hide ((HBz.out.block _ (heap_lt HN1.out)).trans HN1.out)
          have t0 : (w1.alloc (.cells #[.string z1, .string z2, .bool z3] 64)).cell? ⟨w.heap.size, 0, none⟩ = some (.string s1) := cell_blk HAz.out rfl
          have t1 : (w1.alloc (.cells #[.string z1, .string z2, .bool z3] 64)).cell? ⟨w.heap.size, 1, none⟩ = some (.string s2) := cell_blk HAz.out rfl
          clear hrg hrg1 hat hlk hkey hv hg1 hs1 HS hz
          go_wp2_with fail
          refine HSH.out.mono ?_
          rintro e V5 ⟨rfl, hb5⟩
          have HB5 := hide (HBz.out.trans (hb5.mono HBz.out.size))
          have HN5 := hide ((hb5.block _ (heap_lt HNz.out)).trans HNz.out)
          clear hb5 HSH t0 t1 HBz
          generalize hzb : w1.heap.size = zb at *
          have HZB := hide hzb
          clear hzb
          have v0 : V5.cell? ⟨zb, 0, none⟩ = some (.string z1) := cell_blk HN5.out rfl
          have v1 : V5.cell? ⟨zb, 1, none⟩ = some (.string z2) := cell_blk HN5.out rfl
          have v2 : V5.cell? ⟨zb, 2, none⟩ = some (.bool z3) := cell_blk HN5.out rfl
          have HB6 : Hid (Below B V0 V5 ∧ B ≤ V5.heap.size ∧ r + 1 ≤ V5.heap.size ∧ w1.grownBy V5 none) := hide (by
            have h1 := HB1.out
            have h2 : zb ≤ V5.heap.size := by rw [← HZB.out]; exact HB5.out.size
            exact ⟨h1.1.trans (HB5.out.mono (by omega)), by omega, by omega, ⟨HB5.out.os, HB5.out.tape, HB5.out.output, HB5.out.size, fun i hi _ => HB5.out.block i (by rw [← HZB.out]; exact hi)⟩⟩)
          have HR6 : Hid (V5.ownsRow B 62 2 (.slice aa ac.length cc) ac.length (ac.flatMap prc)) := hide (row_kept HR1.out (fun j hj => HB5.out.block j (by have := (HR1.out.lt j hj).2; have := HZB.out; omega)))
          have HRG6 := hide (HRG.out.kept HB6.out.2.2.2 (by simp) (by simp))
          have HSW : Hid (seenW (s1, s2) ⟨z1, z2, z3⟩ = (inSp (s1, s2) z1 && !z3)) := hide rfl
          have HIN : Hid (kS (⟨z1, z2, z3⟩ : Wt).key = kS z1) := hide rfl
          cases hin : inSp (s1, s2) z1
          · rw [hin] at HSW
            have HN7 : Hid (Stwo V0 V5 B wb r m D ws (s1, s2) (oldP ws bs) (fun q => left q && !q.sameKey (kS z1)) cnt1 (.slice aa ac.length cc) ac) := hide ⟨HRG6.out, HR6.out, HNE.out, HPM.out.trans ((List.Perm.refl _).append ((by have := HPS.out; rw [List.filter_cons_of_neg (by rw [HSW.out]; simp)] at this; exact this.symm : List.Perm _ _).map prOf)), HSU.out, HB6.out.1, HB6.out.2.2.1⟩
            have hle2 := HN7.out.rg.left_eq
            clear HRG HRG6 HR6 HR1 HPS HPM
            go_wp2
            go_roundw
            case rel => exact ⟨_, _, ac, aa, cc, rfl, HN7⟩
            case measure => rw [hle, hle2]; exact hlt
          · rw [hin] at HSW
            cases z3
            · have HR8 : Hid ((V5.alloc (.cells #[.string z1, .string z2] 62)).ownsRow B 62 2 (.slice aa ac.length cc) ac.length (ac.flatMap prc)) := hide (HR6.out.alloc _)
              have HN8 := hide (heap_alloc_new V5 (.cells #[.string z1, .string z2] 62))
              have HS8 : Hid ((V5.alloc (.cells #[.string z1, .string z2] 62)).heap.size = V5.heap.size + 1) := hide (World.size_alloc _ _)
              have HB8 : Hid (Below B V0 (V5.alloc (.cells #[.string z1, .string z2] 62)) ∧ B ≤ (V5.alloc (.cells #[.string z1, .string z2] 62)).heap.size) := hide ⟨HB6.out.1.alloc HB6.out.2.1 _, by have := HS8.out; have := HB6.out.2.1; omega⟩
              have HRG8 := hide (HRG6.out.alloc (.cells #[.string z1, .string z2] 62))
              have HWR : Hid (wb < B ∧ B ≤ r) := hide (by have h1 := HWL.out; have h2 := HSZ0.out; omega)
              go_wp2_with (at_builtin; refine wpList_pr rfl _ _ rfl B (.slice aa ac.length cc) ac.length ac rfl HR8.out V5.heap.size ⟨z1, z2⟩ rfl HN8.out HACL.out HB8.out.2 ?_)
              intro v9 w9 HN9
              obtain ⟨a9, c9, rfl⟩ := own_form HN9.out.1
              have HLL : Hid ((ac ++ [(⟨z1, z2⟩ : Pr)]).length = ac.length + 1) := hide (by simp)
              have HN7 : Hid (Stwo V0 w9 B wb r m D ws (s1, s2) (oldP ws bs) (fun q => left q && !q.sameKey (kS z1)) cnt1 (.slice a9 (ac.length + 1) c9) (ac ++ [⟨z1, z2⟩])) := hide ⟨HRG8.out.kept HN9.out.2.1 (fun e => by have := (HR8.out.lt wb e.symm).1; have := HWR.out; omega) (fun e => HNE.out e.symm), by rw [HLL.out]; have := HN9.out.1; simpa using this, fun e => HN9.out.2.2.1.elim (fun h => HNE.out (by rw [← h]; exact e)) (fun h => by rw [h] at e; simp only [Option.some.injEq] at e; have := HB6.out.2.2.1; omega), by
                have h1 := HPS.out
                rw [List.filter_cons_of_pos (by rw [HSW.out]; rfl)] at h1
                have h2 := (h1.map prOf).symm
                rw [List.map_cons] at h2
                have h3 := ((List.Perm.refl (oldP ws bs)).append h2)
                refine List.Perm.trans ?_ h3
                refine List.Perm.trans ?_ (List.perm_middle).symm
                exact (List.perm_append_comm).trans (HPM.out.cons _), HSU.out, HB8.out.1.trans HN9.out.2.2.2, by have h1 := HN9.out.2.1.size; have h2 := HS8.out; have h3 := HB6.out.2.2.1; omega⟩
              have hle2 := HN7.out.rg.left_eq
              clear HN9 HRG HRG6 HRG8 HR6 HR8 HR1 HPS HPM HN8
              go_wp2
              go_roundw
              case rel => exact ⟨_, _, ac ++ [⟨z1, z2⟩], a9, c9, by rw [HLL.out], by rw [HLL.out]; exact HN7⟩
              case measure => rw [hle, hle2]; exact hlt
            · have HN7 : Hid (Stwo V0 V5 B wb r m D ws (s1, s2) (oldP ws bs) (fun q => left q && !q.sameKey (kS z1)) cnt1 (.slice aa ac.length cc) ac) := hide ⟨HRG6.out, HR6.out, HNE.out, HPM.out.trans ((List.Perm.refl _).append ((by have := HPS.out; rw [List.filter_cons_of_neg (by rw [HSW.out]; simp)] at this; exact this.symm : List.Perm _ _).map prOf)), HSU.out, HB6.out.1, HB6.out.2.2.1⟩
              have hle2 := HN7.out.rg.left_eq
              clear HRG HRG6 HR6 HR1 HPS HPM
              go_wp2
              go_roundw
              case rel => exact ⟨_, _, ac, aa, cc, rfl, HN7⟩
              case measure => rw [hle, hle2]; exact hlt
end Go.Proofs.YtlkmcbelmldleaaGreat
/- Scan -/
namespace Go.Proofs.YtlkmcbelmldleaaGreat
open Go.RowKit
open Go.Maps (Keyed has size)
set_option maxRecDepth 40000
theorem scanF_key (L : List Vr) (fr to : ByteArray) (t : Nat) : ∀ (l : List Vr) (o : Option (List UInt8)), ∀ p ∈ scanF L fr to t o l, ∃ x ∈ l, p.key = x.key
  | [], _, p, hp => by simp [scanF] at hp
  | x :: r, o, p, hp => by
    unfold scanF at hp
    split at hp
    · obtain ⟨y, hy, e⟩ := scanF_key L fr to t r _ p hp
      exact ⟨y, List.mem_cons_of_mem _ hy, e⟩
    · rcases List.mem_append.1 hp with hp | hp
      · refine ⟨x, List.mem_cons_self .., ?_⟩
        unfold item at hp
        split at hp
        · simp at hp; rw [hp]
        · simp at hp
      · obtain ⟨y, hy, e⟩ := scanF_key L fr to t r _ p hp
        exact ⟨y, List.mem_cons_of_mem _ hy, e⟩
theorem scanR_few (low : Nat) (l : List Vr) (fr to : ByteArray) (t : Nat) : (scanR low l fr to t).1.length ≤ 4096 ∧ ∀ p ∈ (scanR low l fr to t).1, p.key.size ≤ 256 := by
  by_cases hE : askE low l t = 0
  · have hg := ask_good hE
    have ht : ¬ t < low := fun h => by unfold askE at hE; rw [if_pos hg, if_pos h] at hE; cases hE
    rw [scanR_good hg ht]
    refine ⟨Nat.le_trans (scanF_len l fr to t none l) (goodB_iff.1 hg).1, fun p hp => ?_⟩
    obtain ⟨x, hx, e⟩ := scanF_key l fr to t l none p hp
    have := good_at hg hx
    unfold rightB at this
    simp only [Bool.and_eq_true, decide_eq_true_eq] at this
    rw [e]; exact this.1.1.2
  · unfold scanR
    rw [if_neg hE]
    simp
set_option maxHeartbeats 1000000 in
theorem tscan_no (w : World) (g ob : Nat) (ps : List Pl) (ms : Mg) (h : IsM w g ob ps ms) (t : Int) (ht : -9223372036854775808 ≤ t ∧ t ≤ 9223372036854775807) (hn : ∀ x ∈ ms.opn, ¬ (x.1 : Int) = t) (fr to : ByteArray) :
    Calls Tryz.prog 30 #[.pointer (some ⟨g, 0, none⟩), .int .i64 t, .string fr, .string to] w fun e w' => e = .returned (.tuple #[.slice none 0 0, .int .i64 11]) ∧ w' = w := by
  have HF := hide (find_no _ g ob ps ms h t ht hn)
  clear h ht hn
  go_enter Tryz.func30, Tryz.ntmps30
  go_wp2_with fail
  refine HF.out.mono ?_
  rintro e w' ⟨rfl, rfl⟩
  go_wp2
  go_ret2
  exact ⟨rfl, rfl⟩
set_option maxHeartbeats 1000000 in
theorem tscan_many (w : World) (g ob : Nat) (ps : List Pl) (ms : Mg) (h : IsM w g ob ps ms) (i n : Nat) (tr : Tr) (l : Pl) (h1 : ms.opn[i]? = some (n, tr)) (h2 : ps[i]? = some l) (fr to : ByteArray) (hl : tr.reads.length = 256) :
    Calls Tryz.prog 30 #[.pointer (some ⟨g, 0, none⟩), .int .i64 (n : Int), .string fr, .string to] w fun e w' => e = .returned (.tuple #[.slice none 0 0, .int .i64 3]) ∧ w' = w := by
  have HF := hide (find_yes _ g ob ps ms h i n tr l h1 h2)
  have hX := h.each i n tr l h1 h2
  obtain ⟨a, cap, er, _⟩ := row_isS hX.row
  have c1 : w.cell? ⟨l.p, 1, none⟩ = some (.slice a 256 cap) := by rw [← hl, ← er]; exact cell_blk hX.blk rfl
  clear h h1 h2 hX er hl
  go_enter Tryz.func30, Tryz.ntmps30
  go_wp2_with fail
  refine HF.out.mono ?_
  rintro e w' ⟨rfl, rfl⟩
  go_wp2
  go_ret2
  exact ⟨rfl, rfl⟩
set_option maxHeartbeats 8000000 in
theorem tscan_ok (w : World) (g ob : Nat) (ps : List Pl) (ms : Mg) (h : IsM w g ob ps ms) (i n : Nat) (tr : Tr) (l : Pl) (h1 : ms.opn[i]? = some (n, tr)) (h2 : ps[i]? = some l) (fr to : ByteArray) (hl : tr.reads.length < 256) (hws : tr.ws.length ≤ 256) :
    Calls Tryz.prog 30 #[.pointer (some ⟨g, 0, none⟩), .int .i64 (n : Int), .string fr, .string to] w fun e w' => ∃ (vv : Value) (l' : List Pr), e = .returned (.tuple #[vv, .int .i64 (scanR ms.low ms.vs fr to tr.began).2]) ∧ w'.ownsRow w.heap.size 62 2 vv l'.length (l'.flatMap prc) ∧ (l'.Perm (oldP tr.ws (scanR ms.low ms.vs fr to tr.began).1 ++ (tr.ws.filter (seenW (fr, to))).map prOf) ∧ (∀ i j, i < j → j < l'.length → Op.bytesLess (l'.getD j Pr0).key.toList (l'.getD i Pr0).key.toList = false)) ∧ ∃ v, IsM w' g ob (ps.set i ⟨l.p, l.wb, v⟩) (ms.turn i n (tr.read (fr, to))) ∧ Frm (fun j => l.has j) w w' ∧ (∀ j, v.ownBlock = some j → l.has j ∨ w.heap.size ≤ j) ∧ ∀ j, vv.ownBlock = some j → ∃ W : World, w.heap.size ≤ W.heap.size ∧ IsM W g ob (ps.set i ⟨l.p, l.wb, v⟩) (ms.turn i n (tr.read (fr, to))) ∧ W.heap.size ≤ j ∧ W.heap[g]? = w'.heap[g]? := by
  have HF := hide (find_yes _ g ob ps ms h i n tr l h1 h2)
  have hX := h.each i n tr l h1 h2
  obtain ⟨a, cap, er, _⟩ := row_isS hX.row
  have c1 : w.cell? ⟨l.p, 1, none⟩ = some (.slice a tr.reads.length cap) := by rw [← er]; exact cell_blk hX.blk rfl
  have HLE : Hid (tr.reads.length ≤ 256) := hide (by omega)
  have hlI : ¬ (tr.reads.length : Int) = 256 := by omega
  have hl2 : ((tr.reads.length : Int) == 256) = false := by simp; omega
  have hl3 : (tr.reads.length == 256) = false := by simp; omega
  have HH := hide (And.intro h (And.intro h1 h2))
  have HER := hide er
  have HB1 : Hid (Below w.heap.size w (w.alloc (.cells #[.string fr, .string to] 127))) := hide ((Below.refl _ w).alloc (Nat.le_refl _) _)
  have HN1 := hide (heap_alloc_new w (.cells #[.string fr, .string to] 127))
  have HRW : Hid ((w.alloc (.cells #[.string fr, .string to] 127)).ownsRow 0 127 2 (.slice a tr.reads.length cap) tr.reads.length (tr.reads.flatMap spc)) := hide (by rw [← er]; exact hX.row.alloc _)
  have HXB := hide hX.blk
  have HPR : Hid (l.rv.ownBlock ≠ some l.p) := hide (fun e => by
    rcases hX.row.2 with q | ⟨g', cap, cur, q1, q2, q3, q4⟩
    · rw [q.1] at e; cases e
    · rw [q1] at e
      cases e
      rw [hX.blk] at q3
      simp at q3)
  have HRLT : Hid (∀ j, l.rv.ownBlock = some j → j < w.heap.size) := hide (fun j hj => (hX.row.lt j hj).2)
  have HS1 : Hid ((w.alloc (.cells #[.string fr, .string to] 127)).heap.size = w.heap.size + 1) := hide (World.size_alloc _ _)
  have hmix := mixed
  obtain ⟨i0, hi0, hz0, hz1, hz2⟩ := info_parts info127
  clear h h1 h2 hX er
  go_enter Tryz.func30, Tryz.ntmps30
  go_wp2_with fail
  refine HF.out.mono ?_
  rintro e w' ⟨rfl, rfl⟩
  clear HF
  go_wp2_with fail
  have HB1' : Hid (Below w'.heap.size w' (w'.alloc (.cells #[.string fr, .string to] 127))) := HB1
  have HLP : Hid (l.p < (w'.alloc (.cells #[.string fr, .string to] 127)).heap.size ∧ (Value.slice a tr.reads.length cap).ownBlock ≠ some l.p ∧ w'.heap.size < (w'.alloc (.cells #[.string fr, .string to] 127)).heap.size ∧ (Value.slice a tr.reads.length cap).ownBlock ≠ some w'.heap.size) := hide ⟨by have := heap_lt HXB.out; have := HS1.out; omega, by rw [← HER.out]; exact HPR.out, by have := HS1.out; omega, fun e => by rw [← HER.out] at e; have := HRLT.out _ e; omega⟩
  generalize hab : w'.heap.size = ab at *
  have HAB := hide hab
  clear hab
  generalize hW1 : (w'.alloc (.cells #[.string fr, .string to] 127)) = W1 at *
  clear hW1
  have HS : Hid (∀ W : World, Below W1.heap.size W1 W → W.cell? ⟨l.p, 1, none⟩ = some (.slice a tr.reads.length cap) ∧ W.cell? ⟨ab, 0, none⟩ = some (.string fr) ∧ W.cell? ⟨ab, 1, none⟩ = some (.string to)) := hide (fun W hW => by
    have r1 := (hW.block _ HLP.out.1).trans ((HB1.out.block _ (by rw [← HAB.out]; exact heap_lt HXB.out)).trans HXB.out)
    have r2 := (hW.block _ HLP.out.2.2.1).trans HN1.out
    refine ⟨?_, cell_blk r2 rfl, cell_blk r2 rfl⟩
    rw [← HER.out]
    exact cell_blk r1 rfl)
  have HFZ : Hid (∀ W : World, ∀ {V : World}, W.heap[l.p]? = V.heap[l.p]? → Below W1.heap.size W1 V → W.frozen? ⟨l.p, 1, none⟩ = false) := hide (fun W V e hV => frz (e.trans ((hV.block _ HLP.out.1).trans ((HB1.out.block _ (by rw [← HAB.out]; exact heap_lt HXB.out)).trans HXB.out))) 1)
  refine wp_region_last 10 (fun W' : World => W'.cell? ⟨l.p, 1, none⟩ = some (.slice a tr.reads.length cap) ∧ W'.cell? ⟨ab, 0, none⟩ = some (.string fr) ∧ W'.cell? ⟨ab, 1, none⟩ = some (.string to)) (by kernel_rfl) (HS.out _ (Below.refl _ W1).drew) (fun hHeld => ?_)
  have HDW : Hid (Below W1.heap.size W1 W1.drew) := hide (Below.refl _ W1).drew
  generalize W1.drew = Wd at *
  refine wpAnyL_take (i := 0) (v := ?v0a) rfl (by kernel_rfl) (fun _ _ _ h => h) (by assumption) (by rfl) ?hy0a ?hn0a
  case hy0a => (intro w hSw; (try dsimp only at hSw); skip; go_simp; try with_reducible rfl)
  try simp only [Act.put]
  refine wpAnyL_take (i := 1) (v := ?v1a) rfl (by kernel_rfl) (fun _ _ _ h => h) (by assumption) (by rfl) ?hy1a ?hn1a
  case hy1a => (intro w hSw; (try dsimp only at hSw); skip; go_simp; try with_reducible rfl)
  try simp only [Act.put]
  refine wpAnyL_take (i := 2) (v := ?v2a) rfl (by kernel_rfl) (fun _ _ _ h => h) (by assumption) (by rfl) ?hy2a ?hn2a
  case hy2a => (intro w hSw; (try dsimp only at hSw); skip; go_simp; try with_reducible rfl)
  try simp only [Act.put]
  refine wpAnyL_take (i := 3) (v := ?v3a) rfl (by kernel_rfl) (fun _ _ _ h => h) (by assumption) (by rfl) ?hy3a ?hn3a
  case hy3a => (intro w hSw; (try dsimp only at hSw); skip; go_simp; try with_reducible rfl)
  try simp only [Act.put]
  refine wpAnyL_take (i := 4) (v := ?v4a) rfl (by kernel_rfl) (fun _ _ _ h => h) (by assumption) (by rfl) ?hy4a ?hn4a
  case hy4a => (intro w hSw; (try dsimp only at hSw); skip; go_simp; try with_reducible rfl)
  try simp only [Act.put]
  refine wpAnyL_take (i := 5) (v := ?v5a) rfl (by kernel_rfl) (fun _ _ _ h => h) (by assumption) (by rfl) ?hy5a ?hn5a
  case hy5a => (intro w hSw; (try dsimp only at hSw); skip; go_simp; try with_reducible rfl)
  try simp only [Act.put]
  refine wpAnyL_one (i := 6) rfl (by kernel_rfl) (fun K hK => ?_)
  go_simp
  have HBa : Hid (Below W1.heap.size W1 (Wd.alloc (.cells #[.string fr, .string to] 127))) := hide (HDW.out.alloc HDW.out.size _)
  have HNa := hide (heap_alloc_new Wd (.cells #[.string fr, .string to] 127))
  refine hK.out _ _ (HS.out _ HBa.out) (fun hHeld => ?_)
  clear hK K
  try simp only [Act.put]
  have HRa : Hid ((Wd.alloc (.cells #[.string fr, .string to] 127)).ownsRow 0 127 2 (.slice a tr.reads.length cap) tr.reads.length (tr.reads.flatMap spc)) := hide (row_kept HRW.out (fun j hj => HBa.out.block j (HRW.out.lt j hj).2))
  obtain ⟨v3, w3, hrun, q1, q2, _, q3⟩ := run_append_own_at (w := (Wd.alloc (.cells #[.string fr, .string to] 127))) 0 123 123 127 i0 _ 2 32 Tryz.underlying123 hi0 hz0 hz1 hz2 rfl (by decide) (.slice a tr.reads.length cap) tr.reads.length _ HRa.out ⟨Wd.heap.size, 0, none⟩ 1 1 (spc (fr, to)) rfl (spc_news (fr, to) HNa.out) (spc_one (fr, to)) (by unfold maxLen; have := HLE.out; omega) (by have := HLE.out; omega) (Nat.zero_le _)
  obtain ⟨a3, c3, rfl⟩ := own_form q1
  have H3 := hide (And.intro q1 (And.intro q2 q3))
  have HS3 : Hid (w3.cell? ⟨l.p, 1, none⟩ = some (.slice a tr.reads.length cap) ∧ w3.cell? ⟨ab, 0, none⟩ = some (.string fr) ∧ w3.cell? ⟨ab, 1, none⟩ = some (.string to)) := hide (by
    have h0 := HS.out _ HBa.out
    have e1 : w3.heap[l.p]? = (Wd.alloc (.cells #[.string fr, .string to] 127)).heap[l.p]? := q2.block _ (Nat.lt_of_lt_of_le HLP.out.1 HBa.out.size) (fun e => HLP.out.2.1 e.symm)
    have e2 : w3.heap[ab]? = (Wd.alloc (.cells #[.string fr, .string to] 127)).heap[ab]? := q2.block _ (Nat.lt_of_lt_of_le HLP.out.2.2.1 HBa.out.size) (fun e => HLP.out.2.2.2 e.symm)
    exact ⟨(World.cell?_of_block e1).trans h0.1, (World.cell?_of_block e2).trans h0.2.1, (World.cell?_of_block e2).trans h0.2.2⟩)
  refine wpAnyL_one (i := 7) rfl (by kernel_rfl) (fun K hK => ?_)
  refine wp_append_eq _ _ 123 rfl rfl rfl hrun ?_
  refine hK.out _ _ (HS3.out) (fun hHeld => ?_)
  clear hK K
  try simp only [Act.put]
  clear hrun q1 q2 q3
  refine wpAnyL_take (i := 8) (v := ?v8a) rfl (by kernel_rfl) (fun _ _ _ h => h) (by assumption) (by rfl) ?hy8a ?hn8a
  case hy8a => (intro w hSw; (try dsimp only at hSw); skip; go_simp; try with_reducible rfl)
  try simp only [Act.put]
  refine wpAnyL_take (i := 9) (v := ?v9a) rfl (by kernel_rfl) (fun _ _ _ h => h) (by assumption) (by rfl) ?hy9a ?hn9a
  case hy9a => (intro w hSw; (try dsimp only at hSw); skip; go_simp; try with_reducible rfl)
  try simp only [Act.put]
  have f1 : w3.frozen? ⟨l.p, 1, none⟩ = false := HFZ.out w3 (H3.out.2.1.block _ (Nat.lt_of_lt_of_le HLP.out.1 HBa.out.size) (fun e => HLP.out.2.1 e.symm)) HBa.out
  refine wpAnyL_last rfl (by kernel_rfl) (by kernel_rfl) (fun K hK => ?_)
  go_simp
  refine hK.out _ _ ?_
  clear hK K hHeld
  have HF3 : Hid (Frm (fun j => l.rv.ownBlock = some j) w' w3) := hide ((Frm.below (by rw [HAB.out]; exact HB1.out.trans (HBa.out.mono (by have := HS1.out; omega)))).trans (Frm.grown H3.out.2.1 (fun q hq => by rw [HER.out]; exact hq)))
  have HVO : Hid (∀ j, (Value.slice a3 (tr.reads.length + 1) c3).ownBlock = some j → l.has j ∨ w'.heap.size ≤ j) := hide (fun j hj => H3.out.2.2.elim (fun e => .inl (.inr (.inr (by rw [HER.out, ← e]; exact hj)))) (fun e => .inr (by rw [e] at hj; cases hj; have h1 := HBa.out.size; have h2 := HS1.out; have h3 := HAB.out; omega)))
  have HM4 := hide (read_isM (v := .slice a3 (tr.reads.length + 1) c3) (x := (fr, to)) HH.out.1 HH.out.2.1 HH.out.2.2 HF3.out (by rw [List.flatMap_append]; simpa using H3.out.1) (H3.out.2.2.elim (fun e => .inl (e.trans (by rw [HER.out]))) (fun e => .inr (fun q hq => by rw [e] at hq; cases hq; have h1 := HBa.out.size; have h2 := HS1.out; have h3 := HAB.out; omega))))
  have HN4 : Hid ((w3.setCell ⟨l.p, 1, none⟩ (.slice a3 (tr.reads.length + 1) c3)).heap[ab]? = some (.cells #[.string fr, .string to] 127 (0, 0))) := hide ((Below.heap_setCell _ _ _ _ (by have := heap_lt HXB.out; have := HAB.out; simp; omega)).trans ((H3.out.2.1.block _ (Nat.lt_of_lt_of_le HLP.out.2.2.1 HBa.out.size) (fun e => HLP.out.2.2.2 e.symm)).trans ((HBa.out.block _ HLP.out.2.2.1).trans HN1.out)))
  clear H3 HS3 HFZ HS HRa HNa HBa HDW f1 c1 HF3
  generalize (w3.setCell ⟨l.p, 1, none⟩ (.slice a3 (tr.reads.length + 1) c3)) = W4 at *
  obtain ⟨va, vn, vc, hvb, hV, _, _⟩ := HM4.out.1.ver
  have HVB : Hid (W4.heap[g]? = some (.cells #[.slice va vn vc, .int .u64 (ms.low : Nat), .int .u64 (ms.now : Nat), .int .i64 (ms.last : Nat), .map (some ob)] 97 (0, 0))) := hide hvb
  have HV : Hid (IsV W4 va vn vc ms.vs) := hide hV
  clear hvb hV
  have HS : Hid (∀ W' : World, Below W4.heap.size W4 W' → W'.cell? ⟨g, 0, none⟩ = some (.slice va vn vc) ∧ W'.cell? ⟨g, 1, none⟩ = some (.int .u64 (ms.low : Nat)) ∧ W'.cell? ⟨l.p, 0, none⟩ = some (.int .u64 (tr.began : Nat))) := hide (fun W' hW => by
    have r1 := (hW.block _ (heap_lt HVB.out)).trans HVB.out
    have r2 := (hW.block _ (heap_lt HM4.out.2.2)).trans HM4.out.2.2
    exact ⟨cell_blk r1 rfl, cell_blk r1 rfl, cell_blk r2 rfl⟩)
  have HFW := hide (scanR_few ms.low ms.vs fr to tr.began)
  have HG : Hid (∀ W' : World, Below W4.heap.size W4 W' → Calls Tryz.prog 56 #[.agg #[.slice va vn vc, .int .u64 (ms.low : Nat)], .string fr, .string to, .int .u64 (tr.began : Nat)] W' fun e w' => ∃ a' c', e = .returned (.tuple #[.slice a' (scanR ms.low ms.vs fr to tr.began).1.length c', .int .i64 (scanR ms.low ms.vs fr to tr.began).2]) ∧ IsP w' a' (scanR ms.low ms.vs fr to tr.began).1.length c' (scanR ms.low ms.vs fr to tr.began).1 ∧ Below W4.heap.size W4 w') := hide (fun W' hW =>
    (scan_any va vn vc ms.low tr.began fr to ms.vs W' (HV.out.below hW)).mono (fun e w' ⟨a', c', q1, q2, q3⟩ => ⟨a', c', q1, q2, hW.trans (q3.mono hW.size)⟩))
  have HXn := hide (HM4.out.1.each i n (tr.read (fr, to)) ⟨l.p, l.wb, .slice a3 (tr.reads.length + 1) c3⟩ (by show (ms.opn.set i _)[i]? = _; rw [List.getElem?_set_self (List.getElem?_eq_some_iff.1 HH.out.2.1).1]) (by rw [List.getElem?_set_self (List.getElem?_eq_some_iff.1 HH.out.2.2).1]))
  obtain ⟨SR, hSR⟩ : ∃ SR, scanR ms.low ms.vs fr to tr.began = SR := ⟨_, rfl⟩
  have HSR := hide hSR
  rw [hSR] at HFW HG
  clear hSR
  obtain ⟨S1, S2⟩ := SR
  dsimp only at HFW HG
  go_wp2_with fail
  refine wp_region_held_drew (S := (fun W' : World => W'.cell? ⟨g, 0, none⟩ = some (.slice va vn vc) ∧ W'.cell? ⟨g, 1, none⟩ = some (.int .u64 (ms.low : Nat)) ∧ W'.cell? ⟨l.p, 0, none⟩ = some (.int .u64 (tr.began : Nat)))) (by kernel_rfl) ?hSb (fun hHeld => ?_)
  case hSb => exact HS.out _ (Below.refl _ W4).drew
  refine hTake (i := 0) (v := ?v0b) (some 45) rfl rfl (by kernel_rfl) (by kernel_rfl) (by kernel_rfl) (fun _ _ _ h => h) (by rfl) (by assumption) ?hy0b ?hn0b
  case hy0b => (intro w hSw; (try dsimp only at hSw); skip; go_simp; try with_reducible rfl)
  try simp only [Act.put, List.setIfInBounds_toArray, List.set_cons_zero, List.set_cons_succ]
  refine hTake (i := 1) (v := ?v1b) (some 46) rfl rfl (by kernel_rfl) (by kernel_rfl) (by kernel_rfl) (fun _ _ _ h => h) (by rfl) (by assumption) ?hy1b ?hn1b
  case hy1b => (intro w hSw; (try dsimp only at hSw); skip; go_simp; try with_reducible rfl)
  try simp only [Act.put, List.setIfInBounds_toArray, List.set_cons_zero, List.set_cons_succ]
  refine hTake (i := 2) (v := ?v2b) (some 47) rfl rfl (by kernel_rfl) (by kernel_rfl) (by kernel_rfl) (fun _ _ _ h => h) (by rfl) (by assumption) ?hy2b ?hn2b
  case hy2b => (intro w hSw; (try dsimp only at hSw); skip; go_simp; try with_reducible rfl)
  try simp only [Act.put, List.setIfInBounds_toArray, List.set_cons_zero, List.set_cons_succ]
  refine hTake (i := 3) (v := ?v3b) (some 48) rfl rfl (by kernel_rfl) (by kernel_rfl) (by kernel_rfl) (fun _ _ _ h => h) (by rfl) (by assumption) ?hy3b ?hn3b
  case hy3b => (intro w hSw; (try dsimp only at hSw); skip; go_simp; try with_reducible rfl)
  try simp only [Act.put, List.setIfInBounds_toArray, List.set_cons_zero, List.set_cons_succ]
  refine hTake (i := 4) (v := ?v4b) (some 49) rfl rfl (by kernel_rfl) (by kernel_rfl) (by kernel_rfl) (fun _ _ _ h => h) (by rfl) (by assumption) ?hy4b ?hn4b
  case hy4b => (intro w hSw; (try dsimp only at hSw); skip; go_simp; try with_reducible rfl)
  try simp only [Act.put, List.setIfInBounds_toArray, List.set_cons_zero, List.set_cons_succ]
  refine hTake (i := 5) (v := ?v5b) (some 50) rfl rfl (by kernel_rfl) (by kernel_rfl) (by kernel_rfl) (fun _ _ _ h => h) (by rfl) (by assumption) ?hy5b ?hn5b
  case hy5b => (intro w hSw; (try dsimp only at hSw); skip; go_simp; try with_reducible rfl)
  try simp only [Act.put, List.setIfInBounds_toArray, List.set_cons_zero, List.set_cons_succ]
  refine hTake (i := 6) (v := ?v6b) (some 51) rfl rfl (by kernel_rfl) (by kernel_rfl) (by kernel_rfl) (fun _ _ _ h => h) (by rfl) (by assumption) ?hy6b ?hn6b
  case hy6b => (intro w hSw; (try dsimp only at hSw); skip; go_simp; try with_reducible rfl)
  try simp only [Act.put, List.setIfInBounds_toArray, List.set_cons_zero, List.set_cons_succ]
  refine hTake (i := 7) (v := ?v7b) (some 52) rfl rfl (by kernel_rfl) (by kernel_rfl) (by kernel_rfl) (fun _ _ _ h => h) (by rfl) (by assumption) ?hy7b ?hn7b
  case hy7b => (intro w hSw; (try dsimp only at hSw); skip; go_simp; try with_reducible rfl)
  try simp only [Act.put, List.setIfInBounds_toArray, List.set_cons_zero, List.set_cons_succ]
  refine hTake (i := 8) (v := ?v8b) (some 53) rfl rfl (by kernel_rfl) (by kernel_rfl) (by kernel_rfl) (fun _ _ _ h => h) (by rfl) (by assumption) ?hy8b ?hn8b
  case hy8b => (intro w hSw; (try dsimp only at hSw); skip; go_simp; try with_reducible rfl)
  try simp only [Act.put, List.setIfInBounds_toArray, List.set_cons_zero, List.set_cons_succ]
  refine hTake (i := 9) (v := ?v9b) (some 54) rfl rfl (by kernel_rfl) (by kernel_rfl) (by kernel_rfl) (fun _ _ _ h => h) (by rfl) (by assumption) ?hy9b ?hn9b
  case hy9b => (intro w hSw; (try dsimp only at hSw); skip; go_simp; try with_reducible rfl)
  try simp only [Act.put, List.setIfInBounds_toArray, List.set_cons_zero, List.set_cons_succ]
  refine hOne (i := 10) rfl (by kernel_rfl) (fun K hK => ?_)
  go_simp
  refine (HG.out _ (Below.refl _ W4).drew).mono ?_
  rintro e wA ⟨a6, c6, rfl, hI6, hbA⟩
  have HI6 := hide hI6
  have HBA := hide hbA
  clear hI6 hbA
  refine hK.out _ _ (HS.out _ HBA.out) (fun hHeld => ?_)
  clear hK K
  try simp only [Act.put, List.setIfInBounds_toArray, List.set_cons_zero, List.set_cons_succ]
  refine hTake (i := 11) (v := ?v11b) (some 44) rfl rfl (by kernel_rfl) (by kernel_rfl) (by kernel_rfl) (fun _ _ _ h => h) (by rfl) (by assumption) ?hy11b ?hn11b
  case hy11b => (intro w hSw; (try dsimp only at hSw); skip; go_simp; try with_reducible rfl)
  try simp only [Act.put, List.setIfInBounds_toArray, List.set_cons_zero, List.set_cons_succ]
  refine hTake (i := 12) (v := ?v12b) (some 56) rfl rfl (by kernel_rfl) (by kernel_rfl) (by kernel_rfl) (fun _ _ _ h => h) (by rfl) (by assumption) ?hy12b ?hn12b
  case hy12b => (intro w hSw; (try dsimp only at hSw); skip; go_simp; try with_reducible rfl)
  try simp only [Act.put, List.setIfInBounds_toArray, List.set_cons_zero, List.set_cons_succ]
  refine hTake (i := 13) (v := ?v13b) (some 57) rfl rfl (by kernel_rfl) (by kernel_rfl) (by kernel_rfl) (fun _ _ _ h => h) (by rfl) (by assumption) ?hy13b ?hn13b
  case hy13b => (intro w hSw; (try dsimp only at hSw); skip; go_simp; try with_reducible rfl)
  try simp only [Act.put, List.setIfInBounds_toArray, List.set_cons_zero, List.set_cons_succ]
  refine hTake (i := 14) (v := ?v14b) (some 13) rfl rfl (by kernel_rfl) (by kernel_rfl) (by kernel_rfl) (fun _ _ _ h => h) (by rfl) (by assumption) ?hy14b ?hn14b
  case hy14b => (intro w hSw; (try dsimp only at hSw); skip; go_simp; try with_reducible rfl)
  try simp only [Act.put, List.setIfInBounds_toArray, List.set_cons_zero, List.set_cons_succ]
  refine hTake (i := 15) (v := ?v15b) (some 11) rfl rfl (by kernel_rfl) (by kernel_rfl) (by kernel_rfl) (fun _ _ _ h => h) (by rfl) (by assumption) ?hy15b ?hn15b
  case hy15b => (intro w hSw; (try dsimp only at hSw); skip; go_simp; try with_reducible rfl)
  try simp only [Act.put, List.setIfInBounds_toArray, List.set_cons_zero, List.set_cons_succ]
  refine wpAnyH_done (by kernel_rfl) ?_ _
  have HSE := hide (sees_any wA ⟨l.p, l.wb, .slice a3 (tr.reads.length + 1) c3⟩ (tr.read (fr, to)) (HXn.out.kept (fun i hi => HBA.out.block i (HXn.out.lt hi))) hws a6 S1.length c6 S1 HI6.out HFW.out.1 HFW.out.2 (fr, to))
  have HN5 := hide ((HBA.out.block _ (heap_lt HN4.out)).trans HN4.out)
  have b0 : wA.cell? ⟨ab, 0, none⟩ = some (.string fr) := cell_blk HN5.out rfl
  have b1 : wA.cell? ⟨ab, 1, none⟩ = some (.string to) := cell_blk HN5.out rfl
  go_wp2_with fail
  refine HSE.out.mono ?_
  rintro e w9 ⟨v9, l9, rfl, hr9, hp9, hs9, hb9⟩
  have HEND : Hid (w9.ownsRow w'.heap.size 62 2 v9 l9.length (l9.flatMap prc) ∧ l9.Perm (oldP tr.ws S1 ++ (tr.ws.filter (seenW (fr, to))).map prOf) ∧ (∀ i j, i < j → j < l9.length → Op.bytesLess (l9.getD j Pr0).key.toList (l9.getD i Pr0).key.toList = false) ∧ Below W4.heap.size W4 w9 ∧ ∀ j, v9.ownBlock = some j → W4.heap.size ≤ j) := hide ⟨row_mono hr9 (Nat.le_trans HM4.out.2.1.size HBA.out.size), hp9, hs9, HBA.out.trans (hb9.mono HBA.out.size), fun j hj => Nat.le_trans HBA.out.size (hr9.lt j hj).1⟩
  obtain ⟨a9, c9, rfl⟩ := own_form hr9
  clear hr9 hp9 hs9 hb9 HSE b0 b1
  go_wp2
  go_ret2
  refine ⟨_, l9, by rw [HSR.out]; rfl, HEND.out.1, by rw [HSR.out]; exact ⟨HEND.out.2.1, HEND.out.2.2.1⟩, _, HM4.out.1.below HEND.out.2.2.2.1, HM4.out.2.1.trans (Frm.below HEND.out.2.2.2.1), HVO.out, fun j hj => ⟨W4, HM4.out.2.1.size, HM4.out.1, HEND.out.2.2.2.2 j hj, (HEND.out.2.2.2.1.block _ (heap_lt HVB.out)).symm⟩⟩
end Go.Proofs.YtlkmcbelmldleaaGreat
/- Scan and Abort at a manager none of whose blocks lies in a set -/
namespace Go.Proofs.YtlkmcbelmldleaaGreat
open Go.RowKit
open Go.Maps (Keyed has size)
set_option maxRecDepth 40000
/-- Scan: what stays, and why -/
def mScan (ms : Mg) (t : Int) (fr to : ByteArray) : Mg × Int := match ms.at t with
  | none => (ms, 11)
  | some (i, n, tr) => if tr.reads.length = 256 then (ms, 3) else (ms.turn i n (tr.read (fr, to)), (scanR ms.low ms.vs fr to tr.began).2)
/-- the pairs that it answers -/
def ScanL (ms : Mg) (t : Int) (fr to : ByteArray) (l : List Pr) : Prop := match ms.at t with
  | none => l = []
  | some (_, _, tr) => if tr.reads.length = 256 then l = [] else l.Perm (oldP tr.ws (scanR ms.low ms.vs fr to tr.began).1 ++ (tr.ws.filter (seenW (fr, to))).map prOf) ∧ (∀ i j, i < j → j < l.length → Op.bytesLess (l.getD j Pr0).key.toList (l.getD i Pr0).key.toList = false)
theorem mn_scan (X : Nat → Prop) (w : World) (g : Nat) (ms : Mg) (h : Mn X w g ms) (t : Int) (ht : -9223372036854775808 ≤ t ∧ t ≤ 9223372036854775807) (fr to : ByteArray) :
    Calls Tryz.prog 30 #[.pointer (some ⟨g, 0, none⟩), .int .i64 t, .string fr, .string to] w fun e w' => ∃ (v : Value) (l : List Pr), e = .returned (.tuple #[v, .int .i64 (mScan ms t fr to).2]) ∧ w'.ownsRow w.heap.size 62 2 v l.length (l.flatMap prc) ∧ ScanL ms t fr to l ∧ Mn (fun j => X j ∨ v.ownBlock = some j) w' g (mScan ms t fr to).1 ∧ Frm (fun i => ¬ X i) w w' := by
  obtain ⟨ob, ps, h1, h2⟩ := h.ex
  unfold mScan ScanL
  have hnil : ∀ (w' : World), w' = w → Mn (fun j => X j ∨ (Value.slice none 0 0).ownBlock = some j) w' g ms := fun w' e => by
    rw [e]; exact h.mono (fun i hi => hi.elim id (fun e => by simp [Value.ownBlock] at e))
  cases ha : ms.at t with
  | none => exact (tscan_no w g ob ps ms h1 t ht (at_none ha) fr to).mono (fun e w' q => ⟨_, [], q.1, World.ownsRow_nil _ _ _ _, rfl, hnil w' q.2, by rw [q.2]; exact Frm.refl _ _⟩)
  | some x =>
    obtain ⟨i, n, tr⟩ := x
    obtain ⟨q1, rfl⟩ := at_some ha
    obtain ⟨l, q2⟩ := Mn.pl h1 q1
    have hf := h.few (n, tr) (List.mem_of_getElem? q1)
    by_cases hr : tr.reads.length = 256
    · simp only [if_pos hr]
      exact (tscan_many w g ob ps ms h1 i n tr l q1 q2 fr to hr).mono (fun e w' q => ⟨_, [], q.1, World.ownsRow_nil _ _ _ _, rfl, hnil w' q.2, by rw [q.2]; exact Frm.refl _ _⟩)
    · simp only [if_neg hr]
      have hrl : tr.reads.length < 256 := by have := hf.1; dsimp only at this; omega
      refine (tscan_ok w g ob ps ms h1 i n tr l q1 q2 fr to hrl hf.2).mono ?_
      rintro e w' ⟨vv, l', rfl, hrow, hpm, v, hM, hF, hv, hvv⟩
      have hS : ∀ j, l.has j → ¬ X j := fun j hj => h2 j (.inr (.inr ⟨l, List.mem_of_getElem? q2, hj⟩))
      have hX : ∀ j, SM g ob (ps.set i ⟨l.p, l.wb, v⟩) j → ¬ X j := sm_set q2 h2 (fun j hj => by
        rcases hj with hj | hj | hj
        · exact .inl (.inl hj)
        · exact .inl (.inr (.inl hj))
        · rcases hv j hj with h' | h'
          · exact .inl h'
          · exact .inr (fun hx => by have := h.xb j hx; omega))
      have hgs : w'.heap[g]? = w.heap[g]? := hF.block _ (h1.ltS (.inl rfl)) (h1.far l (List.mem_of_getElem? q2)).1
      refine ⟨vv, l', rfl, hrow, hpm, ⟨⟨ob, _, hM, fun j hj hx => ?_⟩, fun b hb hx => ?_, few_turn h.few ⟨by simp [Tr.read]; omega, hf.2⟩, fun j hj => ?_⟩, hF.mono (fun j _ hj => hS j hj)⟩
      · rcases hx with hx | hx
        · exact hX j hj hx
        · obtain ⟨W, _, hMW, hle, _⟩ := hvv j hx
          have := hMW.ltS hj
          omega
      · rcases hx with hx | hx
        · exact h.ver b (hb.same hgs) hx
        · obtain ⟨W, _, hMW, hle, hg⟩ := hvv b hx
          have := vb_lt hMW (hb.same hg.symm)
          omega
      · rcases hj with hj | hj
        · exact Nat.lt_of_lt_of_le (h.xb j hj) hF.size
        · exact (hrow.lt j hj).2
/-- Abort -/
def mAbort (ms : Mg) (t : Int) : Mg × Int := match ms.at t with
  | none => (ms, 11)
  | some (i, _, _) => (ms.ended i, 0)
set_option maxHeartbeats 1000000 in
theorem mn_abort (X : Nat → Prop) (w : World) (g : Nat) (ms : Mg) (h : Mn X w g ms) (t : Int) (ht : -9223372036854775808 ≤ t ∧ t ≤ 9223372036854775807) :
    Calls Tryz.prog 36 #[.pointer (some ⟨g, 0, none⟩), .int .i64 t] w fun e w' => e = .returned (.int .i64 (mAbort ms t).2) ∧ Mn X w' g (mAbort ms t).1 ∧ Frm (fun i => ¬ X i) w w' := by
  obtain ⟨ob, ps, h1, h2⟩ := h.ex
  unfold mAbort
  cases ha : ms.at t with
  | none =>
    have HF := hide (find_no _ g ob ps ms h1 t ht (at_none ha))
    have HM := hide h
    clear h h1 h2 ht ha
    go_enter Tryz.func36, Tryz.ntmps36
    go_wp2_with fail
    refine HF.out.mono ?_
    rintro e w' ⟨rfl, rfl⟩
    go_wp2
    go_ret
    exact ⟨rfl, HM.out, Frm.refl _ _⟩
  | some x =>
    obtain ⟨i, n, tr⟩ := x
    obtain ⟨q1, rfl⟩ := at_some ha
    obtain ⟨l, q2⟩ := Mn.pl h1 q1
    have HF := hide (find_yes _ g ob ps ms h1 i n tr l q1 q2)
    have HE : Hid (Calls Tryz.prog 59 #[.pointer (some ⟨g, 0, none⟩), .int .i64 (n : Int)] w fun e w' => e = .returned (.tuple #[]) ∧ Mn X w' g (ms.ended i) ∧ Frm (fun i => ¬ X i) w w') := hide ((end_any w g ob ps ms h1 i n tr l q1 q2).mono (by
      rintro e w' ⟨rfl, hM, hF, hvb⟩
      refine ⟨rfl, ⟨⟨ob, _, hM, fun j hj => h2 j (sm_less hj)⟩, fun b hb hx => ?_, fun y hy => ?_, fun j hj => Nat.lt_of_lt_of_le (h.xb j hj) hF.size⟩, hF.mono (fun j _ hj => hj.elim (fun e => h2 j (.inl e)) (fun e => h2 j (.inr (.inl e))))⟩
      · rcases hvb b hb with h' | h'
        · exact h.ver b h' hx
        · have := h.xb b hx; omega
      · rw [ended_opn] at hy
        exact h.few y (List.mem_of_mem_eraseIdx hy)))
    clear h h1 h2 ht ha q1 q2
    dsimp only
    go_enter Tryz.func36, Tryz.ntmps36
    go_wp2_with fail
    refine HF.out.mono ?_
    rintro e w' ⟨rfl, rfl⟩
    go_wp2_with fail
    refine HE.out.mono ?_
    rintro e w2 ⟨rfl, hM, hF⟩
    have H2 := hide (And.intro hM hF)
    clear hM hF HE HF
    go_wp2
    go_ret
    exact ⟨rfl, H2.out.1, H2.out.2⟩
end Go.Proofs.YtlkmcbelmldleaaGreat

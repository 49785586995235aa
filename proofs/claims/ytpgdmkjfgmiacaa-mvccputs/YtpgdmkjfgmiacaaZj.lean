/- the document's Put: refused -/
import Derived.Test.YtpgdmkjfgmiacaaZh
import Derived.Test.YtpgdmkjfgmiacaaZi
namespace Go.Proofs.Ytpgdmkjfgmiacaa
open Go.RowKit Go.Shelf
theorem late_step (t : Nat) (l : List Vr) (k : Nat) (h : k < l.length) : (l.take (k + 1)).any (lateB t) = ((l.take k).any (lateB t) || decide (t ≤ (l.getD k Vr0).at_)) := by
  rw [List.take_add_one, List.getElem?_eq_getElem h, List.any_append, List.getD_eq_getElem?_getD, List.getElem?_eq_getElem h]
  simp [lateB]
theorem putL_step (t : Nat) (l : List Vr) (ws : List Wt) (k : Nat) (h : k < ws.length) : putL t l (ws.take (k + 1)) = withL (putL t l (ws.take k)) (vOf t (ws.getD k Wt0)) := by
  unfold putL
  rw [List.take_add_one, List.getElem?_eq_getElem h, List.foldl_append, List.getD_eq_getElem?_getD, List.getElem?_eq_getElem h]
  rfl
theorem IsV.set2 {w : World} {a : Option Addr} {len cap g : Nat} {l : List Vr} {u v : Value} (h : IsV w a len cap l) (h2 : Two w g u v) (hu : ∀ s, u ≠ .string s) (hv : ∀ s, v ≠ .string s) (z : Value) : IsV (w.setCell ⟨g, 0, none⟩ z) a len cap l := by
  refine ⟨h.1, h.2.1, h.2.2.1, fun i hi => ?_⟩
  obtain ⟨b, off, e, hlt, z0, z1, z2, z3⟩ := h.2.2.2 i hi
  have hne : b ≠ g := by
    rintro rfl
    simp only [World.cell?, h2] at z0
    generalize off + i * 4 = j at z0
    match j with
    | 0 => simp at z0; exact hu _ z0
    | 1 => simp at z0; exact hv _ z0
    | j + 2 => simp at z0
  have k : ∀ j, (w.setCell ⟨g, 0, none⟩ z).cell? ⟨b, j, none⟩ = w.cell? ⟨b, j, none⟩ := fun j => World.cell?_of_block (Below.heap_setCell _ _ _ _ hne)
  exact ⟨b, off, e, by simpa [World.setCell] using hlt, (k _).trans z0, (k _).trans z1, (k _).trans z2, (k _).trans z3⟩
set_option maxRecDepth 40000 in
set_option maxHeartbeats 4000000 in
theorem rput_no (a : Option Addr) (len cap low : Nat) (l : List Vr) (aw : Option Addr) (lw cw : Nat) (ws : List Wt) (t : Nat) (w : World) (hL : IsV w a len cap l) (hW : IsW w aw lw cw ws) (hE : ¬ refE low l ws t = 0) :
    Calls Try.prog 23 #[.agg #[.slice a len cap, .int .u64 (low : Nat)], .slice aw lw cw, .int .u64 (t : Nat)] w fun e w' =>
    e = .returned (.tuple #[.agg #[.slice none 0 0, .int .u64 0], .int .i64 (refE low l ws t)]) ∧ Below w.heap.size w w' := by
  have HRE : Hid (refE low l ws t = if goodB low l = true then (if 4096 < ws.length then 3 else if ws.any longB = true then 4 else if twiceB ws = true then 12 else if timeB t = true then (if t < low ∨ l.any (lateB t) = true then 9 else if 4096 < l.length + ws.length then 3 else 0) else 2) else 2) := hide rfl
  have HNE := hide hE
  clear hE
  have HB5 : Hid (Below w.heap.size w ((w.alloc (.cells #[.slice a len cap, .int .u64 (low : Nat)] 25)).alloc (.cells #[.slice none 0 0, .int .u64 0] 25))) := hide (((Below.refl _ w).alloc (Nat.le_refl _) _).alloc (by simp) _)
  have bR := hide (heap_alloc_new (w.alloc (.cells #[.slice a len cap, .int .u64 (low : Nat)] 25)) (.cells #[.slice none 0 0, .int .u64 0] 25))
  have bV : Hid (Two ((w.alloc (.cells #[.slice a len cap, .int .u64 (low : Nat)] 25)).alloc (.cells #[.slice none 0 0, .int .u64 0] 25)) w.heap.size (.slice a len cap) (.int .u64 (low : Nat))) := hide ((heap_alloc_old _ _ _ (by simp)).trans (heap_alloc_new _ _))
  have HVS : Hid (((w.alloc (.cells #[.slice a len cap, .int .u64 (low : Nat)] 25)).alloc (.cells #[.slice none 0 0, .int .u64 0] 25)).heap.size = w.heap.size + 2) := hide (by simp)
  simp only [World.size_alloc] at bR
  have HV := hide (hL.below HB5.out)
  have HW := hide (hW.below HB5.out)
  have HLN := hide hL.1
  have HWN := hide hW.1
  have hcm : cap ≤ 9223372036854775807 := hL.2.2.1
  have hcap := hL.2.1
  have hcmw : cw ≤ 9223372036854775807 := hW.2.2.1
  have hcapw := hW.2.1
  clear hL hW
  go_enter Try.func23, Try.ntmps23
  go_wp2_with fail
  generalize ((w.alloc (.cells #[.slice a len cap, .int .u64 (low : Nat)] 25)).alloc (.cells #[.slice none 0 0, .int .u64 0] 25)) = V at *
  refine (rcheck_any a len cap low l V HV.out).mono ?_
  rintro e w1 ⟨rfl, hb1⟩
  have HB1 : Hid (Below (w.heap.size + 2) V w1) := hide (by rw [← HVS.out]; exact hb1)
  clear hb1
  have HT1 : Hid (Two w1 w.heap.size (.slice a len cap) (.int .u64 (low : Nat))) := hide ((HB1.out.block _ (by omega)).trans bV.out)
  obtain ⟨v0, v1⟩ := cells2_of_blk HT1.out
  unfold checkE
  by_cases hg : goodB low l = true
  rotate_left
  · rw [if_neg hg]
    have HE : Hid (refE low l ws t = 2) := hide (by rw [HRE.out, if_neg hg])
    clear hg HRE HNE
    go_wp2
    go_loopw [8, 34] (fun v8 v34 wr => ∃ k : Nat, k ≤ len ∧ v8 = .int .i64 2 ∧ v34 = .int .i64 (k : Nat) ∧ Hid (Below (w.heap.size + 2) V wr)) (fun _ v34 _ => len - (intOf v34).toNat)
    case atStart => exact ⟨0, Nat.zero_le _, rfl, rfl, HB1⟩
    case round =>
      obtain ⟨k, hk, rfl, rfl, HI⟩ := hrel
      by_cases hlt : k < len
      · obtain ⟨b, off, rfl, hbs, z0, z1, z2, z3⟩ := (HV.out.below (by rw [HVS.out]; exact HI.out)).2.2.2 k hlt
        generalize l.getD k Vr0 = x at *
        obtain ⟨x1, x2, x3, x4⟩ := x
        dsimp only at z0 z1 z2 z3
        have HBN : Hid (Below (w.heap.size + 2) V (wr.alloc (.cells #[.string x1, .int .u64 (x2 : Nat), .string x3, .bool x4] 51))) := hide (HI.out.alloc (by have := HI.out.size; rw [HVS.out] at this; exact this) _)
        have hw1 : IntKind.i64.wrap ((k : Int) + 1) = (k : Int) + 1 := wr64' (by omega) (by omega)
        have hi2 : (k : Int) < (len : Int) := by omega
        have hi4 : (0 : Int) ≤ (k : Int) := by omega
        go_wp2
        go_roundw
        case rel => exact ⟨k + 1, by omega, rfl, by simp, HBN⟩
        case measure => simp [intOf]; omega
      · obtain rfl : k = len := by omega
        have hi2 : ¬ (k : Int) < (k : Int) := by omega
        have HBe := HI
        have HR4 : Hid (Two wr (w.heap.size + 1) (.slice none 0 0) (.int .u64 0)) := hide ((HBe.out.block _ (by omega)).trans bR.out)
        have HT4 : Hid (Two wr w.heap.size (.slice a k cap) (.int .u64 (low : Nat))) := hide ((HBe.out.block _ (by omega)).trans bV.out)
        obtain ⟨g0, g1⟩ := cells2_of_blk HT4.out
        obtain ⟨r0, r1⟩ := cells2_of_blk HR4.out
        have f0 := frz HR4.out 0
        have f1 := frz HR4.out 1
        have HFIN : Hid (∀ (fn : Func) (tmps : Array Value) (e : Int), fn.results = #[.cell 6 25, .tmp 7] → tmps.getD 6 undef = .pointer (some ⟨w.heap.size + 1, 0, none⟩) → tmps.getD 7 undef = .int .i64 e → (results fn tmps).run Try.prog ((wr.setCell ⟨w.heap.size + 1, 0, none⟩ (.slice none 0 0)).setCell ⟨w.heap.size + 1, 1, none⟩ (.int .u64 0)) = .ok (.tuple #[.agg #[.slice none 0 0, .int .u64 0], .int .i64 e]) ((wr.setCell ⟨w.heap.size + 1, 0, none⟩ (.slice none 0 0)).setCell ⟨w.heap.size + 1, 1, none⟩ (.int .u64 0))) := hide (fun fn tmps e h1 h2 h3 => by
          rw [res25 h1 tmps _ _ _ _ (two_set HR4.out _ _) h2, h3])
        have HBF : Hid (Below w.heap.size w ((wr.setCell ⟨w.heap.size + 1, 0, none⟩ (.slice none 0 0)).setCell ⟨w.heap.size + 1, 1, none⟩ (.int .u64 0))) := hide (((HB5.out.trans (HBe.out.mono (by omega))).setCell (p := ⟨w.heap.size + 1, 0, none⟩) (by show _ ≤ w.heap.size + 1; omega) _).setCell (p := ⟨w.heap.size + 1, 1, none⟩) (by show _ ≤ w.heap.size + 1; omega) _)
        go_wp2
        refine bodyPost_ret (HFIN.out Try.f23 _ 2 rfl rfl rfl) rfl ?_
        exact ⟨by rw [HE.out], HBF.out⟩
  rw [if_pos hg]
  have hl4 : len ≤ 4096 := by rw [← HLN.out]; exact (goodB_iff.1 hg).1
  rw [if_pos hg] at HRE
  clear hg
  go_wp2_with fail
  refine (wrong_any aw lw cw ws w1 (HW.out.below (by rw [HVS.out]; exact HB1.out))).mono ?_
  rintro e w2 ⟨rfl, hb2⟩
  have HB2 : Hid (Below (w.heap.size + 2) V w2) := hide (HB1.out.trans (hb2.mono (by have := HB1.out.size; rw [HVS.out] at this; exact this)))
  clear hb2 v0 v1 HT1 HB1
  have HT2 : Hid (Two w2 w.heap.size (.slice a len cap) (.int .u64 (low : Nat))) := hide ((HB2.out.block _ (by omega)).trans bV.out)
  obtain ⟨v0, v1⟩ := cells2_of_blk HT2.out
  unfold wrongE
  by_cases c1 : 4096 < ws.length
  · rw [if_pos c1] at HRE ⊢
    have HE : Hid (refE low l ws t = 3) := HRE
    clear c1 HRE HNE
    go_wp2
    go_loopw [8, 34] (fun v8 v34 wr => ∃ k : Nat, k ≤ len ∧ v8 = .int .i64 3 ∧ v34 = .int .i64 (k : Nat) ∧ Hid (Below (w.heap.size + 2) V wr)) (fun _ v34 _ => len - (intOf v34).toNat)
    case atStart => exact ⟨0, Nat.zero_le _, rfl, rfl, HB2⟩
    case round =>
      obtain ⟨k, hk, rfl, rfl, HI⟩ := hrel
      by_cases hlt : k < len
      · obtain ⟨b, off, rfl, hbs, z0, z1, z2, z3⟩ := (HV.out.below (by rw [HVS.out]; exact HI.out)).2.2.2 k hlt
        generalize l.getD k Vr0 = x at *
        obtain ⟨x1, x2, x3, x4⟩ := x
        dsimp only at z0 z1 z2 z3
        have HBN : Hid (Below (w.heap.size + 2) V (wr.alloc (.cells #[.string x1, .int .u64 (x2 : Nat), .string x3, .bool x4] 51))) := hide (HI.out.alloc (by have := HI.out.size; rw [HVS.out] at this; exact this) _)
        have hw1 : IntKind.i64.wrap ((k : Int) + 1) = (k : Int) + 1 := wr64' (by omega) (by omega)
        have hi2 : (k : Int) < (len : Int) := by omega
        have hi4 : (0 : Int) ≤ (k : Int) := by omega
        go_wp2
        go_roundw
        case rel => exact ⟨k + 1, by omega, rfl, by simp, HBN⟩
        case measure => simp [intOf]; omega
      · obtain rfl : k = len := by omega
        have hi2 : ¬ (k : Int) < (k : Int) := by omega
        have HBe := HI
        have HR4 : Hid (Two wr (w.heap.size + 1) (.slice none 0 0) (.int .u64 0)) := hide ((HBe.out.block _ (by omega)).trans bR.out)
        have HT4 : Hid (Two wr w.heap.size (.slice a k cap) (.int .u64 (low : Nat))) := hide ((HBe.out.block _ (by omega)).trans bV.out)
        obtain ⟨g0, g1⟩ := cells2_of_blk HT4.out
        obtain ⟨r0, r1⟩ := cells2_of_blk HR4.out
        have f0 := frz HR4.out 0
        have f1 := frz HR4.out 1
        have HFIN : Hid (∀ (fn : Func) (tmps : Array Value) (e : Int), fn.results = #[.cell 6 25, .tmp 7] → tmps.getD 6 undef = .pointer (some ⟨w.heap.size + 1, 0, none⟩) → tmps.getD 7 undef = .int .i64 e → (results fn tmps).run Try.prog ((wr.setCell ⟨w.heap.size + 1, 0, none⟩ (.slice none 0 0)).setCell ⟨w.heap.size + 1, 1, none⟩ (.int .u64 0)) = .ok (.tuple #[.agg #[.slice none 0 0, .int .u64 0], .int .i64 e]) ((wr.setCell ⟨w.heap.size + 1, 0, none⟩ (.slice none 0 0)).setCell ⟨w.heap.size + 1, 1, none⟩ (.int .u64 0))) := hide (fun fn tmps e h1 h2 h3 => by
          rw [res25 h1 tmps _ _ _ _ (two_set HR4.out _ _) h2, h3])
        have HBF : Hid (Below w.heap.size w ((wr.setCell ⟨w.heap.size + 1, 0, none⟩ (.slice none 0 0)).setCell ⟨w.heap.size + 1, 1, none⟩ (.int .u64 0))) := hide (((HB5.out.trans (HBe.out.mono (by omega))).setCell (p := ⟨w.heap.size + 1, 0, none⟩) (by show _ ≤ w.heap.size + 1; omega) _).setCell (p := ⟨w.heap.size + 1, 1, none⟩) (by show _ ≤ w.heap.size + 1; omega) _)
        go_wp2
        refine bodyPost_ret (HFIN.out Try.f23 _ 3 rfl rfl rfl) rfl ?_
        exact ⟨by rw [HE.out], HBF.out⟩
  rw [if_neg c1] at HRE ⊢
  have hl5 : lw ≤ 4096 := by rw [← HWN.out]; omega
  by_cases c2 : ws.any longB = true
  · rw [if_pos c2] at HRE ⊢
    have HE : Hid (refE low l ws t = 4) := HRE
    clear c1 c2 HRE HNE
    go_wp2
    go_loopw [8, 34] (fun v8 v34 wr => ∃ k : Nat, k ≤ len ∧ v8 = .int .i64 4 ∧ v34 = .int .i64 (k : Nat) ∧ Hid (Below (w.heap.size + 2) V wr)) (fun _ v34 _ => len - (intOf v34).toNat)
    case atStart => exact ⟨0, Nat.zero_le _, rfl, rfl, HB2⟩
    case round =>
      obtain ⟨k, hk, rfl, rfl, HI⟩ := hrel
      by_cases hlt : k < len
      · obtain ⟨b, off, rfl, hbs, z0, z1, z2, z3⟩ := (HV.out.below (by rw [HVS.out]; exact HI.out)).2.2.2 k hlt
        generalize l.getD k Vr0 = x at *
        obtain ⟨x1, x2, x3, x4⟩ := x
        dsimp only at z0 z1 z2 z3
        have HBN : Hid (Below (w.heap.size + 2) V (wr.alloc (.cells #[.string x1, .int .u64 (x2 : Nat), .string x3, .bool x4] 51))) := hide (HI.out.alloc (by have := HI.out.size; rw [HVS.out] at this; exact this) _)
        have hw1 : IntKind.i64.wrap ((k : Int) + 1) = (k : Int) + 1 := wr64' (by omega) (by omega)
        have hi2 : (k : Int) < (len : Int) := by omega
        have hi4 : (0 : Int) ≤ (k : Int) := by omega
        go_wp2
        go_roundw
        case rel => exact ⟨k + 1, by omega, rfl, by simp, HBN⟩
        case measure => simp [intOf]; omega
      · obtain rfl : k = len := by omega
        have hi2 : ¬ (k : Int) < (k : Int) := by omega
        have HBe := HI
        have HR4 : Hid (Two wr (w.heap.size + 1) (.slice none 0 0) (.int .u64 0)) := hide ((HBe.out.block _ (by omega)).trans bR.out)
        have HT4 : Hid (Two wr w.heap.size (.slice a k cap) (.int .u64 (low : Nat))) := hide ((HBe.out.block _ (by omega)).trans bV.out)
        obtain ⟨g0, g1⟩ := cells2_of_blk HT4.out
        obtain ⟨r0, r1⟩ := cells2_of_blk HR4.out
        have f0 := frz HR4.out 0
        have f1 := frz HR4.out 1
        have HFIN : Hid (∀ (fn : Func) (tmps : Array Value) (e : Int), fn.results = #[.cell 6 25, .tmp 7] → tmps.getD 6 undef = .pointer (some ⟨w.heap.size + 1, 0, none⟩) → tmps.getD 7 undef = .int .i64 e → (results fn tmps).run Try.prog ((wr.setCell ⟨w.heap.size + 1, 0, none⟩ (.slice none 0 0)).setCell ⟨w.heap.size + 1, 1, none⟩ (.int .u64 0)) = .ok (.tuple #[.agg #[.slice none 0 0, .int .u64 0], .int .i64 e]) ((wr.setCell ⟨w.heap.size + 1, 0, none⟩ (.slice none 0 0)).setCell ⟨w.heap.size + 1, 1, none⟩ (.int .u64 0))) := hide (fun fn tmps e h1 h2 h3 => by
          rw [res25 h1 tmps _ _ _ _ (two_set HR4.out _ _) h2, h3])
        have HBF : Hid (Below w.heap.size w ((wr.setCell ⟨w.heap.size + 1, 0, none⟩ (.slice none 0 0)).setCell ⟨w.heap.size + 1, 1, none⟩ (.int .u64 0))) := hide (((HB5.out.trans (HBe.out.mono (by omega))).setCell (p := ⟨w.heap.size + 1, 0, none⟩) (by show _ ≤ w.heap.size + 1; omega) _).setCell (p := ⟨w.heap.size + 1, 1, none⟩) (by show _ ≤ w.heap.size + 1; omega) _)
        go_wp2
        refine bodyPost_ret (HFIN.out Try.f23 _ 4 rfl rfl rfl) rfl ?_
        exact ⟨by rw [HE.out], HBF.out⟩
  rw [if_neg c2] at HRE ⊢
  by_cases c3 : twiceB ws = true
  · rw [if_pos c3] at HRE ⊢
    have HE : Hid (refE low l ws t = 12) := HRE
    clear c1 c2 c3 HRE HNE
    go_wp2
    go_loopw [8, 34] (fun v8 v34 wr => ∃ k : Nat, k ≤ len ∧ v8 = .int .i64 12 ∧ v34 = .int .i64 (k : Nat) ∧ Hid (Below (w.heap.size + 2) V wr)) (fun _ v34 _ => len - (intOf v34).toNat)
    case atStart => exact ⟨0, Nat.zero_le _, rfl, rfl, HB2⟩
    case round =>
      obtain ⟨k, hk, rfl, rfl, HI⟩ := hrel
      by_cases hlt : k < len
      · obtain ⟨b, off, rfl, hbs, z0, z1, z2, z3⟩ := (HV.out.below (by rw [HVS.out]; exact HI.out)).2.2.2 k hlt
        generalize l.getD k Vr0 = x at *
        obtain ⟨x1, x2, x3, x4⟩ := x
        dsimp only at z0 z1 z2 z3
        have HBN : Hid (Below (w.heap.size + 2) V (wr.alloc (.cells #[.string x1, .int .u64 (x2 : Nat), .string x3, .bool x4] 51))) := hide (HI.out.alloc (by have := HI.out.size; rw [HVS.out] at this; exact this) _)
        have hw1 : IntKind.i64.wrap ((k : Int) + 1) = (k : Int) + 1 := wr64' (by omega) (by omega)
        have hi2 : (k : Int) < (len : Int) := by omega
        have hi4 : (0 : Int) ≤ (k : Int) := by omega
        go_wp2
        go_roundw
        case rel => exact ⟨k + 1, by omega, rfl, by simp, HBN⟩
        case measure => simp [intOf]; omega
      · obtain rfl : k = len := by omega
        have hi2 : ¬ (k : Int) < (k : Int) := by omega
        have HBe := HI
        have HR4 : Hid (Two wr (w.heap.size + 1) (.slice none 0 0) (.int .u64 0)) := hide ((HBe.out.block _ (by omega)).trans bR.out)
        have HT4 : Hid (Two wr w.heap.size (.slice a k cap) (.int .u64 (low : Nat))) := hide ((HBe.out.block _ (by omega)).trans bV.out)
        obtain ⟨g0, g1⟩ := cells2_of_blk HT4.out
        obtain ⟨r0, r1⟩ := cells2_of_blk HR4.out
        have f0 := frz HR4.out 0
        have f1 := frz HR4.out 1
        have HFIN : Hid (∀ (fn : Func) (tmps : Array Value) (e : Int), fn.results = #[.cell 6 25, .tmp 7] → tmps.getD 6 undef = .pointer (some ⟨w.heap.size + 1, 0, none⟩) → tmps.getD 7 undef = .int .i64 e → (results fn tmps).run Try.prog ((wr.setCell ⟨w.heap.size + 1, 0, none⟩ (.slice none 0 0)).setCell ⟨w.heap.size + 1, 1, none⟩ (.int .u64 0)) = .ok (.tuple #[.agg #[.slice none 0 0, .int .u64 0], .int .i64 e]) ((wr.setCell ⟨w.heap.size + 1, 0, none⟩ (.slice none 0 0)).setCell ⟨w.heap.size + 1, 1, none⟩ (.int .u64 0))) := hide (fun fn tmps e h1 h2 h3 => by
          rw [res25 h1 tmps _ _ _ _ (two_set HR4.out _ _) h2, h3])
        have HBF : Hid (Below w.heap.size w ((wr.setCell ⟨w.heap.size + 1, 0, none⟩ (.slice none 0 0)).setCell ⟨w.heap.size + 1, 1, none⟩ (.int .u64 0))) := hide (((HB5.out.trans (HBe.out.mono (by omega))).setCell (p := ⟨w.heap.size + 1, 0, none⟩) (by show _ ≤ w.heap.size + 1; omega) _).setCell (p := ⟨w.heap.size + 1, 1, none⟩) (by show _ ≤ w.heap.size + 1; omega) _)
        go_wp2
        refine bodyPost_ret (HFIN.out Try.f23 _ 12 rfl rfl rfl) rfl ?_
        exact ⟨by rw [HE.out], HBF.out⟩
  rw [if_neg c3] at HRE ⊢
  by_cases c4 : timeB t = true
  rotate_left
  · rw [if_neg c4] at HRE
    have HE : Hid (refE low l ws t = 2) := HRE
    have HC4 : Hid (t < 1 ∨ 2305843009213693952 < t) := hide (by unfold timeB at c4; simp at c4; omega)
    clear c1 c2 c3 c4 HRE HNE
    by_cases c5 : t < 1
    · have c5I : (t : Int) < 1 := by omega
      go_wp2
      go_loopw [8, 34] (fun v8 v34 wr => ∃ k : Nat, k ≤ len ∧ v8 = .int .i64 2 ∧ v34 = .int .i64 (k : Nat) ∧ Hid (Below (w.heap.size + 2) V wr)) (fun _ v34 _ => len - (intOf v34).toNat)
      case atStart => exact ⟨0, Nat.zero_le _, rfl, rfl, HB2⟩
      case round =>
        obtain ⟨k, hk, rfl, rfl, HI⟩ := hrel
        by_cases hlt : k < len
        · obtain ⟨b, off, rfl, hbs, z0, z1, z2, z3⟩ := (HV.out.below (by rw [HVS.out]; exact HI.out)).2.2.2 k hlt
          generalize l.getD k Vr0 = x at *
          obtain ⟨x1, x2, x3, x4⟩ := x
          dsimp only at z0 z1 z2 z3
          have HBN : Hid (Below (w.heap.size + 2) V (wr.alloc (.cells #[.string x1, .int .u64 (x2 : Nat), .string x3, .bool x4] 51))) := hide (HI.out.alloc (by have := HI.out.size; rw [HVS.out] at this; exact this) _)
          have hw1 : IntKind.i64.wrap ((k : Int) + 1) = (k : Int) + 1 := wr64' (by omega) (by omega)
          have hi2 : (k : Int) < (len : Int) := by omega
          have hi4 : (0 : Int) ≤ (k : Int) := by omega
          go_wp2
          go_roundw
          case rel => exact ⟨k + 1, by omega, rfl, by simp, HBN⟩
          case measure => simp [intOf]; omega
        · obtain rfl : k = len := by omega
          have hi2 : ¬ (k : Int) < (k : Int) := by omega
          have HBe := HI
          have HR4 : Hid (Two wr (w.heap.size + 1) (.slice none 0 0) (.int .u64 0)) := hide ((HBe.out.block _ (by omega)).trans bR.out)
          have HT4 : Hid (Two wr w.heap.size (.slice a k cap) (.int .u64 (low : Nat))) := hide ((HBe.out.block _ (by omega)).trans bV.out)
          obtain ⟨g0, g1⟩ := cells2_of_blk HT4.out
          obtain ⟨r0, r1⟩ := cells2_of_blk HR4.out
          have f0 := frz HR4.out 0
          have f1 := frz HR4.out 1
          have HFIN : Hid (∀ (fn : Func) (tmps : Array Value) (e : Int), fn.results = #[.cell 6 25, .tmp 7] → tmps.getD 6 undef = .pointer (some ⟨w.heap.size + 1, 0, none⟩) → tmps.getD 7 undef = .int .i64 e → (results fn tmps).run Try.prog ((wr.setCell ⟨w.heap.size + 1, 0, none⟩ (.slice none 0 0)).setCell ⟨w.heap.size + 1, 1, none⟩ (.int .u64 0)) = .ok (.tuple #[.agg #[.slice none 0 0, .int .u64 0], .int .i64 e]) ((wr.setCell ⟨w.heap.size + 1, 0, none⟩ (.slice none 0 0)).setCell ⟨w.heap.size + 1, 1, none⟩ (.int .u64 0))) := hide (fun fn tmps e h1 h2 h3 => by
            rw [res25 h1 tmps _ _ _ _ (two_set HR4.out _ _) h2, h3])
          have HBF : Hid (Below w.heap.size w ((wr.setCell ⟨w.heap.size + 1, 0, none⟩ (.slice none 0 0)).setCell ⟨w.heap.size + 1, 1, none⟩ (.int .u64 0))) := hide (((HB5.out.trans (HBe.out.mono (by omega))).setCell (p := ⟨w.heap.size + 1, 0, none⟩) (by show _ ≤ w.heap.size + 1; omega) _).setCell (p := ⟨w.heap.size + 1, 1, none⟩) (by show _ ≤ w.heap.size + 1; omega) _)
          go_wp2
          refine bodyPost_ret (HFIN.out Try.f23 _ 2 rfl rfl rfl) rfl ?_
          exact ⟨by rw [HE.out], HBF.out⟩
    · have c5I : ¬ (t : Int) < 1 := by omega
      have c6 : 2305843009213693952 < t := by rcases HC4.out with h | h <;> omega
      have c6I : (2305843009213693952 : Int) < (t : Int) := by omega
      go_wp2
      go_loopw [8, 34] (fun v8 v34 wr => ∃ k : Nat, k ≤ len ∧ v8 = .int .i64 2 ∧ v34 = .int .i64 (k : Nat) ∧ Hid (Below (w.heap.size + 2) V wr)) (fun _ v34 _ => len - (intOf v34).toNat)
      case atStart => exact ⟨0, Nat.zero_le _, rfl, rfl, HB2⟩
      case round =>
        obtain ⟨k, hk, rfl, rfl, HI⟩ := hrel
        by_cases hlt : k < len
        · obtain ⟨b, off, rfl, hbs, z0, z1, z2, z3⟩ := (HV.out.below (by rw [HVS.out]; exact HI.out)).2.2.2 k hlt
          generalize l.getD k Vr0 = x at *
          obtain ⟨x1, x2, x3, x4⟩ := x
          dsimp only at z0 z1 z2 z3
          have HBN : Hid (Below (w.heap.size + 2) V (wr.alloc (.cells #[.string x1, .int .u64 (x2 : Nat), .string x3, .bool x4] 51))) := hide (HI.out.alloc (by have := HI.out.size; rw [HVS.out] at this; exact this) _)
          have hw1 : IntKind.i64.wrap ((k : Int) + 1) = (k : Int) + 1 := wr64' (by omega) (by omega)
          have hi2 : (k : Int) < (len : Int) := by omega
          have hi4 : (0 : Int) ≤ (k : Int) := by omega
          go_wp2
          go_roundw
          case rel => exact ⟨k + 1, by omega, rfl, by simp, HBN⟩
          case measure => simp [intOf]; omega
        · obtain rfl : k = len := by omega
          have hi2 : ¬ (k : Int) < (k : Int) := by omega
          have HBe := HI
          have HR4 : Hid (Two wr (w.heap.size + 1) (.slice none 0 0) (.int .u64 0)) := hide ((HBe.out.block _ (by omega)).trans bR.out)
          have HT4 : Hid (Two wr w.heap.size (.slice a k cap) (.int .u64 (low : Nat))) := hide ((HBe.out.block _ (by omega)).trans bV.out)
          obtain ⟨g0, g1⟩ := cells2_of_blk HT4.out
          obtain ⟨r0, r1⟩ := cells2_of_blk HR4.out
          have f0 := frz HR4.out 0
          have f1 := frz HR4.out 1
          have HFIN : Hid (∀ (fn : Func) (tmps : Array Value) (e : Int), fn.results = #[.cell 6 25, .tmp 7] → tmps.getD 6 undef = .pointer (some ⟨w.heap.size + 1, 0, none⟩) → tmps.getD 7 undef = .int .i64 e → (results fn tmps).run Try.prog ((wr.setCell ⟨w.heap.size + 1, 0, none⟩ (.slice none 0 0)).setCell ⟨w.heap.size + 1, 1, none⟩ (.int .u64 0)) = .ok (.tuple #[.agg #[.slice none 0 0, .int .u64 0], .int .i64 e]) ((wr.setCell ⟨w.heap.size + 1, 0, none⟩ (.slice none 0 0)).setCell ⟨w.heap.size + 1, 1, none⟩ (.int .u64 0))) := hide (fun fn tmps e h1 h2 h3 => by
            rw [res25 h1 tmps _ _ _ _ (two_set HR4.out _ _) h2, h3])
          have HBF : Hid (Below w.heap.size w ((wr.setCell ⟨w.heap.size + 1, 0, none⟩ (.slice none 0 0)).setCell ⟨w.heap.size + 1, 1, none⟩ (.int .u64 0))) := hide (((HB5.out.trans (HBe.out.mono (by omega))).setCell (p := ⟨w.heap.size + 1, 0, none⟩) (by show _ ≤ w.heap.size + 1; omega) _).setCell (p := ⟨w.heap.size + 1, 1, none⟩) (by show _ ≤ w.heap.size + 1; omega) _)
          go_wp2
          refine bodyPost_ret (HFIN.out Try.f23 _ 2 rfl rfl rfl) rfl ?_
          exact ⟨by rw [HE.out], HBF.out⟩
  rw [if_pos c4] at HRE
  have HC4 : Hid (1 ≤ t ∧ t ≤ 2305843009213693952) := hide (by unfold timeB at c4; simpa using c4)
  have c5I : ¬ (t : Int) < 1 := by have := HC4.out; omega
  have c6I : ¬ (2305843009213693952 : Int) < (t : Int) := by have := HC4.out; omega
  have c5D : decide ((t : Int) < 1) = false := decide_eq_false c5I
  have c5N : decide (t < 1) = false := decide_eq_false (by have := HC4.out; omega)
  have c50 : (t == 0) = false := by have := HC4.out; simp; omega
  have c51 : ¬ t = 0 := by have := HC4.out; omega
  have c6D : decide ((2305843009213693952 : Int) < (t : Int)) = false := decide_eq_false c6I
  have c6N : decide (2305843009213693952 < t) = false := decide_eq_false (by have := HC4.out; omega)
  clear c1 c2 c3 c4
  go_wp2
  clear v0 v1 c5I c6I c5D c5N c50 c51 c6D c6N HT2
  go_loopw [8, 34] (fun v8 v34 wr => ∃ (k : Nat) (c : Bool), k ≤ len ∧ v8 = .int .i64 (if c = true then 9 else 0) ∧ v34 = .int .i64 (k : Nat) ∧ Hid (Below (w.heap.size + 2) V wr ∧ (l.take k).any (lateB t) = c)) (fun _ v34 _ => len - (intOf v34).toNat)
  case atStart => exact ⟨0, false, Nat.zero_le _, rfl, rfl, hide ⟨HB2.out, rfl⟩⟩
  case round =>
    obtain ⟨k, c, hk, rfl, rfl, HI⟩ := hrel
    by_cases hlt : k < len
    · obtain ⟨b, off, rfl, hbs, z0, z1, z2, z3⟩ := (HV.out.below (by rw [HVS.out]; exact HI.out.1)).2.2.2 k hlt
      have HTK := hide (late_step t l k (by rw [HLN.out]; exact hlt))
      generalize l.getD k Vr0 = x at *
      obtain ⟨x1, x2, x3, x4⟩ := x
      dsimp only at z0 z1 z2 z3 HTK
      have HBN : Hid (Below (w.heap.size + 2) V (wr.alloc (.cells #[.string x1, .int .u64 (x2 : Nat), .string x3, .bool x4] 51))) := hide (HI.out.1.alloc (by have := HI.out.1.size; rw [HVS.out] at this; exact this) _)
      have hw1 : IntKind.i64.wrap ((k : Int) + 1) = (k : Int) + 1 := wr64' (by omega) (by omega)
      have hi2 : (k : Int) < (len : Int) := by omega
      have hi4 : (0 : Int) ≤ (k : Int) := by omega
      cases c
      · simp only [Bool.false_eq_true, if_false]
        by_cases hx : t ≤ x2
        · have hxI : (t : Int) ≤ (x2 : Int) := by omega
          have HN : Hid ((l.take (k + 1)).any (lateB t) = true) := hide (by rw [HTK.out, HI.out.2, decide_eq_true hx]; rfl)
          go_wp2
          go_roundw
          case rel => exact ⟨k + 1, true, by omega, rfl, by simp, hide ⟨HBN.out, HN.out⟩⟩
          case measure => simp [intOf]; omega
        · have hxI : ¬ (t : Int) ≤ (x2 : Int) := by omega
          have HN : Hid ((l.take (k + 1)).any (lateB t) = false) := hide (by rw [HTK.out, HI.out.2, decide_eq_false hx]; rfl)
          go_wp2
          go_roundw
          case rel => exact ⟨k + 1, false, by omega, rfl, by simp, hide ⟨HBN.out, HN.out⟩⟩
          case measure => simp [intOf]; omega
      · simp only [if_true]
        have HN : Hid ((l.take (k + 1)).any (lateB t) = true) := hide (by rw [HTK.out, HI.out.2]; rfl)
        go_wp2
        go_roundw
        case rel => exact ⟨k + 1, true, by omega, rfl, by simp, hide ⟨HBN.out, HN.out⟩⟩
        case measure => simp [intOf]; omega
    obtain rfl : k = len := by omega
    have hi2 : ¬ (k : Int) < (k : Int) := by omega
    have HLT : Hid (l.any (lateB t) = c) := hide (by have := HI.out.2; rwa [← HLN.out, List.take_length] at this)
    have HBe : Hid (Below (w.heap.size + 2) V wr) := hide HI.out.1
    clear HI
    cases c
    rotate_left
    · simp only [if_true]
      have HE : Hid (refE low l ws t = 9) := hide (by rw [HRE.out, if_pos (.inr HLT.out)])
      clear HRE HNE
      have HR4 : Hid (Two wr (w.heap.size + 1) (.slice none 0 0) (.int .u64 0)) := hide ((HBe.out.block _ (by omega)).trans bR.out)
      have HT4 : Hid (Two wr w.heap.size (.slice a k cap) (.int .u64 (low : Nat))) := hide ((HBe.out.block _ (by omega)).trans bV.out)
      obtain ⟨g0, g1⟩ := cells2_of_blk HT4.out
      obtain ⟨r0, r1⟩ := cells2_of_blk HR4.out
      have f0 := frz HR4.out 0
      have f1 := frz HR4.out 1
      have HFIN : Hid (∀ (fn : Func) (tmps : Array Value) (e : Int), fn.results = #[.cell 6 25, .tmp 7] → tmps.getD 6 undef = .pointer (some ⟨w.heap.size + 1, 0, none⟩) → tmps.getD 7 undef = .int .i64 e → (results fn tmps).run Try.prog ((wr.setCell ⟨w.heap.size + 1, 0, none⟩ (.slice none 0 0)).setCell ⟨w.heap.size + 1, 1, none⟩ (.int .u64 0)) = .ok (.tuple #[.agg #[.slice none 0 0, .int .u64 0], .int .i64 e]) ((wr.setCell ⟨w.heap.size + 1, 0, none⟩ (.slice none 0 0)).setCell ⟨w.heap.size + 1, 1, none⟩ (.int .u64 0))) := hide (fun fn tmps e h1 h2 h3 => by
        rw [res25 h1 tmps _ _ _ _ (two_set HR4.out _ _) h2, h3])
      have HBF : Hid (Below w.heap.size w ((wr.setCell ⟨w.heap.size + 1, 0, none⟩ (.slice none 0 0)).setCell ⟨w.heap.size + 1, 1, none⟩ (.int .u64 0))) := hide (((HB5.out.trans (HBe.out.mono (by omega))).setCell (p := ⟨w.heap.size + 1, 0, none⟩) (by show _ ≤ w.heap.size + 1; omega) _).setCell (p := ⟨w.heap.size + 1, 1, none⟩) (by show _ ≤ w.heap.size + 1; omega) _)
      go_wp2
      refine bodyPost_ret (HFIN.out Try.f23 _ 9 rfl rfl rfl) rfl ?_
      exact ⟨by rw [HE.out], HBF.out⟩
    simp only [Bool.false_eq_true, if_false]
    by_cases c7 : t < low
    · have HE : Hid (refE low l ws t = 9) := hide (by rw [HRE.out, if_pos (.inl c7)])
      have c7I : (t : Int) < (low : Int) := by omega
      clear HRE HNE
      have HR4 : Hid (Two wr (w.heap.size + 1) (.slice none 0 0) (.int .u64 0)) := hide ((HBe.out.block _ (by omega)).trans bR.out)
      have HT4 : Hid (Two wr w.heap.size (.slice a k cap) (.int .u64 (low : Nat))) := hide ((HBe.out.block _ (by omega)).trans bV.out)
      obtain ⟨g0, g1⟩ := cells2_of_blk HT4.out
      obtain ⟨r0, r1⟩ := cells2_of_blk HR4.out
      have f0 := frz HR4.out 0
      have f1 := frz HR4.out 1
      have HFIN : Hid (∀ (fn : Func) (tmps : Array Value) (e : Int), fn.results = #[.cell 6 25, .tmp 7] → tmps.getD 6 undef = .pointer (some ⟨w.heap.size + 1, 0, none⟩) → tmps.getD 7 undef = .int .i64 e → (results fn tmps).run Try.prog ((wr.setCell ⟨w.heap.size + 1, 0, none⟩ (.slice none 0 0)).setCell ⟨w.heap.size + 1, 1, none⟩ (.int .u64 0)) = .ok (.tuple #[.agg #[.slice none 0 0, .int .u64 0], .int .i64 e]) ((wr.setCell ⟨w.heap.size + 1, 0, none⟩ (.slice none 0 0)).setCell ⟨w.heap.size + 1, 1, none⟩ (.int .u64 0))) := hide (fun fn tmps e h1 h2 h3 => by
        rw [res25 h1 tmps _ _ _ _ (two_set HR4.out _ _) h2, h3])
      have HBF : Hid (Below w.heap.size w ((wr.setCell ⟨w.heap.size + 1, 0, none⟩ (.slice none 0 0)).setCell ⟨w.heap.size + 1, 1, none⟩ (.int .u64 0))) := hide (((HB5.out.trans (HBe.out.mono (by omega))).setCell (p := ⟨w.heap.size + 1, 0, none⟩) (by show _ ≤ w.heap.size + 1; omega) _).setCell (p := ⟨w.heap.size + 1, 1, none⟩) (by show _ ≤ w.heap.size + 1; omega) _)
      go_wp2
      refine bodyPost_ret (HFIN.out Try.f23 _ 9 rfl rfl rfl) rfl ?_
      exact ⟨by rw [HE.out], HBF.out⟩
    have HRN : Hid (refE low l ws t = if 4096 < l.length + ws.length then 3 else 0) := hide (by rw [HRE.out, if_neg (by rw [HLT.out]; simpa using c7)])
    have c8 : 4096 < l.length + ws.length := by
      by_cases h : 4096 < l.length + ws.length
      · exact h
      · exact absurd (by rw [HRN.out, if_neg h]) HNE.out
    rw [HLN.out, HWN.out] at c8
    have HE : Hid (refE low l ws t = 3) := hide (by rw [HRN.out, if_pos (by rw [HLN.out, HWN.out]; exact c8)])
    have c7I : ¬ (t : Int) < (low : Int) := by omega
    have c8w : IntKind.i64.wrap ((k : Int) + (lw : Int)) = (k : Int) + (lw : Int) := wr64' (by omega) (by omega)
    have c8I : (4096 : Int) < (k : Int) + (lw : Int) := by omega
    clear HRE HNE HRN
    have HR4 : Hid (Two wr (w.heap.size + 1) (.slice none 0 0) (.int .u64 0)) := hide ((HBe.out.block _ (by omega)).trans bR.out)
    have HT4 : Hid (Two wr w.heap.size (.slice a k cap) (.int .u64 (low : Nat))) := hide ((HBe.out.block _ (by omega)).trans bV.out)
    obtain ⟨g0, g1⟩ := cells2_of_blk HT4.out
    obtain ⟨r0, r1⟩ := cells2_of_blk HR4.out
    have f0 := frz HR4.out 0
    have f1 := frz HR4.out 1
    have HFIN : Hid (∀ (fn : Func) (tmps : Array Value) (e : Int), fn.results = #[.cell 6 25, .tmp 7] → tmps.getD 6 undef = .pointer (some ⟨w.heap.size + 1, 0, none⟩) → tmps.getD 7 undef = .int .i64 e → (results fn tmps).run Try.prog ((wr.setCell ⟨w.heap.size + 1, 0, none⟩ (.slice none 0 0)).setCell ⟨w.heap.size + 1, 1, none⟩ (.int .u64 0)) = .ok (.tuple #[.agg #[.slice none 0 0, .int .u64 0], .int .i64 e]) ((wr.setCell ⟨w.heap.size + 1, 0, none⟩ (.slice none 0 0)).setCell ⟨w.heap.size + 1, 1, none⟩ (.int .u64 0))) := hide (fun fn tmps e h1 h2 h3 => by
      rw [res25 h1 tmps _ _ _ _ (two_set HR4.out _ _) h2, h3])
    have HBF : Hid (Below w.heap.size w ((wr.setCell ⟨w.heap.size + 1, 0, none⟩ (.slice none 0 0)).setCell ⟨w.heap.size + 1, 1, none⟩ (.int .u64 0))) := hide (((HB5.out.trans (HBe.out.mono (by omega))).setCell (p := ⟨w.heap.size + 1, 0, none⟩) (by show _ ≤ w.heap.size + 1; omega) _).setCell (p := ⟨w.heap.size + 1, 1, none⟩) (by show _ ≤ w.heap.size + 1; omega) _)
    go_wp2
    refine bodyPost_ret (HFIN.out Try.f23 _ 3 rfl rfl rfl) rfl ?_
    exact ⟨by rw [HE.out], HBF.out⟩
end Go.Proofs.Ytpgdmkjfgmiacaa

/- written -/
import Derived.Test.YtpgdmkjfgmiacaaYb
namespace Go.Proofs.Ytpgdmkjfgmiacaa
open Go.RowKit
/-- a block of a write -/
abbrev Thr (w : World) (g : Nat) (a b c : Value) : Prop := w.heap[g]? = some (.cells #[a, b, c] 46 (0, 0))
theorem thr_set {w : World} {g : Nat} {a b c : Value} (h : Thr w g a b c) (a' b' c' : Value) : Thr (((w.setCell ⟨g, 0, none⟩ a').setCell ⟨g, 1, none⟩ b').setCell ⟨g, 2, none⟩ c') g a' b' c' := by
  have := blk_set2 (j := 2) (blk_set2 (j := 1) (blk_set2 (j := 0) h a') b') c'
  simpa using this
theorem res46 {fn : Func} {p u : Tmp} (h : fn.results = #[.cell p 46, .tmp u]) (tmps : Array Value) (W : World) (B : Nat) (a b c : Value) (hb : Thr W B a b c) (hp : tmps.getD p undef = .pointer (some ⟨B, 0, none⟩)) :
    (results fn tmps).run Try.prog W = .ok (.tuple #[.agg #[a, b, c], tmps.getD u undef]) W := by
  rw [results_cell_tmp h, hp]
  have hl := run_loadVar_row (P := Try.prog) W B 46 46 _ (0, 0) _ hb Try.underlying46 rfl (by kernel_rfl)
  simp [asAddr, Result.andThen, hl]
/-- what written answers -/
def wvOf (o : Option Wt) : Wt := o.getD Wt0
theorem find_none {key : ByteArray} {ws : List Wt} (h : ∀ j, j < ws.length → keyW key (ws.getD j Wt0) = false) : writ ws key = none := by
  unfold writ
  rw [List.find?_eq_none]
  intro x hx
  obtain ⟨i, hi, e⟩ := List.getElem_of_mem hx
  have := h i hi
  rw [List.getD_eq_getElem?_getD, List.getElem?_eq_getElem hi] at this
  simp only [Option.getD_some] at this
  rw [← e, this]
  simp
theorem find_some {key : ByteArray} : ∀ {ws : List Wt} {k : Nat}, k < ws.length → (∀ j, j < k → keyW key (ws.getD j Wt0) = false) → keyW key (ws.getD k Wt0) = true → writ ws key = some (ws.getD k Wt0)
  | [], _, h, _, _ => by simp at h
  | x :: r, 0, _, _, h => by
    unfold writ
    have h' : keyW key x = true := by simpa using h
    rw [List.find?_cons_of_pos h']
    simp
  | x :: r, k + 1, h, h1, h2 => by
    have h0 : keyW key x = false := by simpa using h1 0 (by omega)
    have := find_some (key := key) (ws := r) (k := k) (by simpa using h) (fun j hj => by simpa using h1 (j + 1) (by omega)) (by simpa using h2)
    unfold writ at this ⊢
    rw [List.find?_cons_of_neg (by simp [h0]), this]
    simp
set_option maxRecDepth 40000 in
set_option maxHeartbeats 2000000 in
theorem written_any (aw : Option Addr) (lw cw : Nat) (ws : List Wt) (key : ByteArray) (w : World) (hW : IsW w aw lw cw ws) :
    Calls Try.prog 26 #[.slice aw lw cw, .string key] w fun e w' => e = .returned (.tuple #[.agg #[.string (wvOf (writ ws key)).key, .string (wvOf (writ ws key)).val, .bool (wvOf (writ ws key)).gone], .bool (writ ws key).isSome]) ∧ Below w.heap.size w w' := by
  have HB0 : Hid (Below w.heap.size w (w.alloc (.cells #[.string ⟨#[]⟩, .string ⟨#[]⟩, .bool false] 46))) := hide ((Below.refl _ w).alloc (Nat.le_refl _) _)
  have HW := hide (hW.below HB0.out)
  have HT0 : Hid (Thr (w.alloc (.cells #[.string ⟨#[]⟩, .string ⟨#[]⟩, .bool false] 46)) w.heap.size (.string ⟨#[]⟩) (.string ⟨#[]⟩) (.bool false)) := hide (heap_alloc_new _ _)
  have HWN := hide hW.1
  have hcm : cw ≤ 9223372036854775807 := hW.2.2.1
  have hcap := hW.2.1
  clear hW
  go_enter Try.func26, Try.ntmps26
  go_wp2
  generalize (w.alloc (.cells #[.string ⟨#[]⟩, .string ⟨#[]⟩, .bool false] 46)) = V at *
  go_loopw [10] (fun v10 wr => ∃ k : Nat, k ≤ lw ∧ v10 = .int .i64 (k : Nat) ∧ Hid (Below V.heap.size V wr ∧ ∀ j, j < k → keyW key (ws.getD j Wt0) = false)) (fun v10 _ => lw - (intOf v10).toNat)
  case atStart => exact ⟨0, Nat.zero_le _, rfl, hide ⟨Below.refl _ _, fun j hj => by omega⟩⟩
  case round =>
    obtain ⟨k, hk, rfl, HI⟩ := hrel
    by_cases hlt : k < lw
    · obtain ⟨bw, ow, rfl, hbw, z0, z1, z2⟩ := (HW.out.below HI.out.1).2.2.2 k hlt
      generalize hx : ws.getD k Wt0 = x at *
      have HX := hide hx
      clear hx hbw
      obtain ⟨x1, x2, x3⟩ := x
      dsimp only at z0 z1 z2
      have hw1 : IntKind.i64.wrap ((k : Int) + 1) = (k : Int) + 1 := wr64' (by omega) (by omega)
      have hi2 : (k : Int) < (lw : Int) := by omega
      have hi4 : (0 : Int) ≤ (k : Int) := by omega
      have HBN : Hid (Below V.heap.size V (wr.alloc (.cells #[.string x1, .string x2, .bool x3] 46))) := hide (HI.out.1.alloc HI.out.1.size _)
      have HTN : Hid (Thr (wr.alloc (.cells #[.string x1, .string x2, .bool x3] 46)) w.heap.size (.string ⟨#[]⟩) (.string ⟨#[]⟩) (.bool false)) := hide ((HBN.out.block _ (heap_lt HT0.out)).trans HT0.out)
      obtain ⟨r0, r1, r2⟩ := cells3_of_blk HTN.out
      have f0 := frz HTN.out 0
      have f1 := frz HTN.out 1
      have f2 := frz HTN.out 2
      by_cases hq : x1.toList = key.toList
      · have HFS : Hid (writ ws key = some ⟨x1, x2, x3⟩) := hide (by
          have := find_some (key := key) (ws := ws) (k := k) (by rw [HWN.out]; exact hlt) HI.out.2 (by rw [HX.out]; unfold keyW; simpa using hq)
          rw [this, HX.out])
        have HFIN : Hid (∀ (fn : Func) (tmps : Array Value), fn.results = #[.cell 4 46, .tmp 5] → tmps.getD 4 undef = .pointer (some ⟨w.heap.size, 0, none⟩) → tmps.getD 5 undef = .bool true → (results fn tmps).run Try.prog ((((wr.alloc (.cells #[.string x1, .string x2, .bool x3] 46)).setCell ⟨w.heap.size, 0, none⟩ (.string x1)).setCell ⟨w.heap.size, 1, none⟩ (.string x2)).setCell ⟨w.heap.size, 2, none⟩ (.bool x3)) = .ok (.tuple #[.agg #[.string x1, .string x2, .bool x3], .bool true]) ((((wr.alloc (.cells #[.string x1, .string x2, .bool x3] 46)).setCell ⟨w.heap.size, 0, none⟩ (.string x1)).setCell ⟨w.heap.size, 1, none⟩ (.string x2)).setCell ⟨w.heap.size, 2, none⟩ (.bool x3))) := hide (fun fn tmps h1 h2 h3 => by
          rw [res46 h1 tmps _ _ _ _ _ (thr_set HTN.out _ _ _) h2, h3])
        have HBF : Hid (Below w.heap.size w ((((wr.alloc (.cells #[.string x1, .string x2, .bool x3] 46)).setCell ⟨w.heap.size, 0, none⟩ (.string x1)).setCell ⟨w.heap.size, 1, none⟩ (.string x2)).setCell ⟨w.heap.size, 2, none⟩ (.bool x3))) := hide ((((HB0.out.trans (HBN.out.mono HB0.out.size)).setCell (p := ⟨w.heap.size, 0, none⟩) (Nat.le_refl _) _).setCell (p := ⟨w.heap.size, 1, none⟩) (Nat.le_refl _) _).setCell (p := ⟨w.heap.size, 2, none⟩) (Nat.le_refl _) _)
        clear HI HX HBN HTN
        go_wp2
        refine bodyPost_ret (HFIN.out Try.f26 _ rfl rfl rfl) rfl ?_
        rw [HFS.out]
        exact ⟨rfl, HBF.out⟩
      · have HN : Hid (Below V.heap.size V (wr.alloc (.cells #[.string x1, .string x2, .bool x3] 46)) ∧ ∀ j, j < k + 1 → keyW key (ws.getD j Wt0) = false) := hide ⟨HBN.out, fun j hj => by
          by_cases e : j = k
          · rw [e, HX.out]; unfold keyW; simpa using hq
          · exact HI.out.2 j (by omega)⟩
        have hqb : (x1.toList == key.toList) = false := by simpa using hq
        clear HI HX HBN HTN hq
        go_wp2
        go_roundw
        case rel => exact ⟨k + 1, by omega, by simp, HN⟩
        case measure => simp [intOf]; omega
    · obtain rfl : k = lw := by omega
      have hi2 : ¬ (k : Int) < (k : Int) := by omega
      have HFN : Hid (writ ws key = none) := hide (find_none (fun j hj => HI.out.2 j (by rw [HWN.out] at hj; exact hj)))
      have HTN : Hid (Thr wr w.heap.size (.string ⟨#[]⟩) (.string ⟨#[]⟩) (.bool false)) := hide ((HI.out.1.block _ (heap_lt HT0.out)).trans HT0.out)
      obtain ⟨r0, r1, r2⟩ := cells3_of_blk HTN.out
      have f0 := frz HTN.out 0
      have f1 := frz HTN.out 1
      have f2 := frz HTN.out 2
      have HFIN : Hid (∀ (fn : Func) (tmps : Array Value), fn.results = #[.cell 4 46, .tmp 5] → tmps.getD 4 undef = .pointer (some ⟨w.heap.size, 0, none⟩) → tmps.getD 5 undef = .bool false → (results fn tmps).run Try.prog (((wr.setCell ⟨w.heap.size, 0, none⟩ (.string ⟨#[]⟩)).setCell ⟨w.heap.size, 1, none⟩ (.string ⟨#[]⟩)).setCell ⟨w.heap.size, 2, none⟩ (.bool false)) = .ok (.tuple #[.agg #[.string ⟨#[]⟩, .string ⟨#[]⟩, .bool false], .bool false]) (((wr.setCell ⟨w.heap.size, 0, none⟩ (.string ⟨#[]⟩)).setCell ⟨w.heap.size, 1, none⟩ (.string ⟨#[]⟩)).setCell ⟨w.heap.size, 2, none⟩ (.bool false))) := hide (fun fn tmps h1 h2 h3 => by
        rw [res46 h1 tmps _ _ _ _ _ (thr_set HTN.out _ _ _) h2, h3])
      have HBF : Hid (Below w.heap.size w (((wr.setCell ⟨w.heap.size, 0, none⟩ (.string ⟨#[]⟩)).setCell ⟨w.heap.size, 1, none⟩ (.string ⟨#[]⟩)).setCell ⟨w.heap.size, 2, none⟩ (.bool false))) := hide ((((HB0.out.trans (HI.out.1.mono HB0.out.size)).setCell (p := ⟨w.heap.size, 0, none⟩) (Nat.le_refl _) _).setCell (p := ⟨w.heap.size, 1, none⟩) (Nat.le_refl _) _).setCell (p := ⟨w.heap.size, 2, none⟩) (Nat.le_refl _) _)
      clear HI HTN
      go_wp2
      refine bodyPost_ret (HFIN.out Try.f26 _ rfl rfl rfl) rfl ?_
      rw [HFN.out]
      exact ⟨rfl, HBF.out⟩
end Go.Proofs.Ytpgdmkjfgmiacaa

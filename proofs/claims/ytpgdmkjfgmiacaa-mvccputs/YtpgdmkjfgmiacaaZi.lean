/- the document's Wrong -/
import Derived.Test.YtpgdmkjfgmiacaaXa
namespace Go.Proofs.Ytpgdmkjfgmiacaa
open Go.RowKit Go.Shelf Go.Lib Go.Sort
/-- why writes can't be done -/
def wrongE (ws : List Wt) : Int := if 4096 < ws.length then 3 else if ws.any longB = true then 4 else if twiceB ws = true then 12 else 0
/-- writes up to a place have no key twice -/
def Once (ws : List Wt) (k : Nat) : Prop := ∀ i j, i < j → j < k → ¬ (ws.getD i Wt0).key.toList = (ws.getD j Wt0).key.toList
theorem once_all {ws : List Wt} (h : Once ws ws.length) : twiceB ws = false := by
  unfold twiceB
  rw [decide_eq_true]
  · rfl
  · rw [List.Nodup, List.pairwise_iff_getElem]
    intro i j hi hj hij
    rw [List.length_map] at hi hj
    have := h i j hij hj
    rw [List.getD_eq_getElem?_getD, List.getD_eq_getElem?_getD, List.getElem?_eq_getElem hi, List.getElem?_eq_getElem hj] at this
    simpa using this
theorem once_not {ws : List Wt} {i j : Nat} (h : i < j) (hj : j < ws.length) (e : (ws.getD i Wt0).key.toList = (ws.getD j Wt0).key.toList) : twiceB ws = true := by
  unfold twiceB
  rw [decide_eq_false]
  · rfl
  · intro hn
    rw [List.Nodup, List.pairwise_iff_getElem] at hn
    refine hn i j (by rw [List.length_map]; omega) (by rw [List.length_map]; omega) h ?_
    rw [List.getD_eq_getElem?_getD, List.getD_eq_getElem?_getD, List.getElem?_eq_getElem (by omega), List.getElem?_eq_getElem hj] at e
    simpa using e
theorem any_not {ws : List Wt} (h : ∀ i, i < ws.length → longB (ws.getD i Wt0) = false) : ws.any longB = false := by
  rw [List.any_eq_false]
  intro x hx
  obtain ⟨i, hi, rfl⟩ := List.getElem_of_mem hx
  have := h i hi
  rw [List.getD_eq_getElem?_getD, List.getElem?_eq_getElem hi] at this
  simpa using this
theorem any_yes {ws : List Wt} {i : Nat} (hi : i < ws.length) (h : longB (ws.getD i Wt0) = true) : ws.any longB = true := by
  rw [List.any_eq_true]
  refine ⟨ws.getD i Wt0, ?_, h⟩
  rw [List.getD_eq_getElem?_getD, List.getElem?_eq_getElem hi]
  exact List.getElem_mem hi
set_option maxRecDepth 40000 in
set_option maxHeartbeats 4000000 in
theorem wrong_any (aw : Option Addr) (lw cw : Nat) (ws : List Wt) (w : World) (hW : IsW w aw lw cw ws) :
    Calls Try.prog 43 #[.slice aw lw cw] w fun e w' => e = .returned (.int .i64 (wrongE ws)) ∧ Below w.heap.size w w' := by
  have HW := hide hW
  have HLN := hide hW.1
  have hcm : cw ≤ 9223372036854775807 := hW.2.2.1
  have hcap := hW.2.1
  have HWE : Hid (wrongE ws = if 4096 < ws.length then 3 else if ws.any longB = true then 4 else if twiceB ws = true then 12 else 0) := hide rfl
  generalize wrongE ws = R at *
  clear hW
  by_cases hbig : 4096 < lw
  · have HR : Hid (R = 3) := hide (by rw [HWE.out, HLN.out, if_pos hbig])
    have d1 : (4096 : Int) < (lw : Int) := by omega
    have d2 : decide ((4096 : Int) < (lw : Int)) = true := decide_eq_true d1
    clear HWE hbig
    go_enter Try.func43, Try.ntmps43
    go_wp2
    go_ret
    exact ⟨ret_int HR.out.symm, Below.refl _ _⟩
  have HR0 : Hid (R = if ws.any longB = true then 4 else if twiceB ws = true then 12 else 0) := hide (by rw [HWE.out, HLN.out, if_neg hbig])
  have d1 : ¬ (4096 : Int) < (lw : Int) := by omega
  have d2 : decide ((4096 : Int) < (lw : Int)) = false := decide_eq_false d1
  have hb4 : lw ≤ 4096 := by omega
  have d3 : decide (4096 < lw) = false := decide_eq_false hbig
  clear HWE hbig
  go_enter Try.func43, Try.ntmps43
  go_wp2
  clear d1 d2 d3
  go_loopw [14] (fun v14 wr => ∃ k : Nat, k ≤ lw ∧ v14 = .int .i64 (k : Nat) ∧ Hid (Below w.heap.size w wr ∧ ∀ j, j < k → longB (ws.getD j Wt0) = false)) (fun v14 _ => lw - (intOf v14).toNat)
  case atStart => exact ⟨0, Nat.zero_le _, rfl, hide ⟨Below.refl _ _, fun j hj => absurd hj (Nat.not_lt_zero _)⟩⟩
  case round =>
    obtain ⟨k, hk, rfl, HI⟩ := hrel
    by_cases hlt : k < lw
    · obtain ⟨b, off, rfl, hbs, z0, z1, z2⟩ := (HW.out.below HI.out.1).2.2.2 k hlt
      have HNX : Hid (∀ u, longB (ws.getD k Wt0) = u → ∀ j, j < k + 1 → j = k → longB (ws.getD j Wt0) = u) := hide (fun u h j _ e => by rw [e]; exact h)
      have HAY : Hid (longB (ws.getD k Wt0) = true → R = 4) := hide (fun h => by rw [HR0.out, if_pos (any_yes (by rw [HLN.out]; exact hlt) h)])
      generalize ws.getD k Wt0 = x at *
      obtain ⟨x1, x2, x3⟩ := x
      dsimp only at z0 z1 z2
      have HBN : Hid (Below w.heap.size w (wr.alloc (.cells #[.string x1, .string x2, .bool x3] 46))) := hide (HI.out.1.alloc HI.out.1.size _)
      have hw1 : IntKind.i64.wrap ((k : Int) + 1) = (k : Int) + 1 := wr64' (by omega) (by omega)
      have hi2 : (k : Int) < (lw : Int) := by omega
      have hi4 : (0 : Int) ≤ (k : Int) := by omega
      have HLB : Hid (longB ⟨x1, x2, x3⟩ = (decide (256 < x1.size) || decide (512 < x2.size))) := hide rfl
      by_cases h1 : 256 < x1.size
      · have h1I : (256 : Int) < (x1.size : Int) := by omega
        have HR : Hid (R = 4) := hide (HAY.out (by rw [HLB.out, decide_eq_true h1]; rfl))
        clear HNX HAY HLB h1
        go_wp2
        go_ret
        exact ⟨ret_int HR.out.symm, HBN.out⟩
      · have h1I : ¬ (256 : Int) < (x1.size : Int) := by omega
        by_cases h2 : 512 < x2.size
        · have h2I : (512 : Int) < (x2.size : Int) := by omega
          have HR : Hid (R = 4) := hide (HAY.out (by rw [HLB.out, decide_eq_true h2]; simp))
          clear HNX HAY HLB h1 h2
          go_wp2
          go_ret
          exact ⟨ret_int HR.out.symm, HBN.out⟩
        · have h2I : ¬ (512 : Int) < (x2.size : Int) := by omega
          have HU := hide (HNX.out false (by rw [HLB.out, decide_eq_false h1, decide_eq_false h2]; rfl))
          clear HNX HAY HLB h1 h2
          go_wp2
          go_roundw
          case rel => exact ⟨k + 1, by omega, by simp, hide ⟨HBN.out, fun j hj => (by
            by_cases e : j = k
            · exact HU.out j hj e
            · exact HI.out.2 j (by omega))⟩⟩
          case measure => simp [intOf]; omega
    · obtain rfl : k = lw := by omega
      have hi2 : ¬ (k : Int) < (k : Int) := by omega
      have HR1 : Hid (R = if twiceB ws = true then 12 else 0) := hide (by rw [HR0.out, if_neg (by rw [any_not (fun i hi => HI.out.2 i (by rw [← HLN.out]; exact hi))]; simp)])
      have HB1 := hide HI.out.1
      clear HI HR0
      go_wp2
      generalize wr = wq at *
      go_loopw [31] (fun v31 wr => ∃ m : Nat, m ≤ k ∧ v31 = .int .i64 (m : Nat) ∧ Hid (Below w.heap.size w wr ∧ Once ws m)) (fun v31 _ => k - (intOf v31).toNat)
      case atStart => exact ⟨0, Nat.zero_le _, rfl, hide ⟨HB1.out, fun i j _ hj => absurd hj (Nat.not_lt_zero _)⟩⟩
      case round =>
        obtain ⟨m, hm, rfl, HI⟩ := hrel
        by_cases hlm : m < k
        rotate_left
        · obtain rfl : m = k := by omega
          have hi2 : ¬ (m : Int) < (m : Int) := by omega
          have HR : Hid (R = 0) := hide (by rw [HR1.out, once_all (by rw [HLN.out]; exact HI.out.2)]; rfl)
          have HB2 := hide HI.out.1
          clear HI HR1
          go_wp2
          go_ret
          exact ⟨ret_int HR.out.symm, HB2.out⟩
        obtain ⟨b, off, rfl, hbs, z0, z1, z2⟩ := (HW.out.below HI.out.1).2.2.2 m hlm
        obtain ⟨y, HY⟩ : ∃ y, Hid (ws.getD m Wt0 = y) := ⟨_, hide rfl⟩
        rw [HY.out] at z0 z1 z2
        obtain ⟨y1, y2, y3⟩ := y
        dsimp only at z0 z1 z2
        have HBN : Hid (Below w.heap.size w (wr.alloc (.cells #[.string y1, .string y2, .bool y3] 46))) := hide (HI.out.1.alloc HI.out.1.size _)
        have HY0 : Hid ((wr.alloc (.cells #[.string y1, .string y2, .bool y3] 46)).heap[wr.heap.size]? = some (.cells #[.string y1, .string y2, .bool y3] 46 (0, 0))) := hide (heap_alloc_new _ _)
        have hw1 : IntKind.i64.wrap ((m : Int) + 1) = (m : Int) + 1 := wr64' (by omega) (by omega)
        have hi2 : (m : Int) < (k : Int) := by omega
        have hi4 : (0 : Int) ≤ (m : Int) := by omega
        have hmc : (m : Int) ≤ (cw : Int) := by omega
        have hmc2 : m ≤ cw := by omega
        have HON := hide HI.out.2
        have HSZ : Hid (w.heap.size ≤ wr.heap.size) := hide HI.out.1.size
        clear HI
        go_wp2
        generalize hgb : wr.heap.size = gb at *
        generalize (wr.alloc (.cells #[.string y1, .string y2, .bool y3] 46)) = wv at *
        clear hgb z0 z1 z2
        have HGB : Hid (gb < wv.heap.size) := hide (heap_lt HY0.out)
        go_loopw [40] (fun v40 wr => ∃ n : Nat, n ≤ m ∧ v40 = .int .i64 (n : Nat) ∧ Hid (Below w.heap.size w wr ∧ Below wv.heap.size wv wr ∧ ∀ j, j < n → ¬ (ws.getD j Wt0).key.toList = y1.toList)) (fun v40 _ => m - (intOf v40).toNat)
        case atStart => exact ⟨0, Nat.zero_le _, rfl, hide ⟨HBN.out, Below.refl _ _, fun j hj => absurd hj (Nat.not_lt_zero _)⟩⟩
        case round =>
          obtain ⟨n, hn, rfl, HI⟩ := hrel
          by_cases hln : n < m
          rotate_left
          · obtain rfl : n = m := by omega
            have hi6 : ¬ (n : Int) < (n : Int) := by omega
            have HO2 : Hid (Once ws (n + 1)) := hide (fun i j hij hj => by
              by_cases e : j = n
              · subst e; rw [HY.out]; exact HI.out.2.2 i hij
              · exact HON.out i j hij (by omega))
            have HB2 := hide HI.out.1
            clear HI
            go_wp2
            go_roundw
            case rel => exact ⟨n + 1, by omega, by simp, hide ⟨HB2.out, HO2.out⟩⟩
            case measure => simp [intOf]; omega
          obtain ⟨b', off', e', hbs', c0, c1, c2⟩ := (HW.out.below HI.out.1).2.2.2 n (by omega)
          cases e'
          have HYr : Hid (wr.heap[gb]? = some (.cells #[.string y1, .string y2, .bool y3] 46 (0, 0))) := hide ((HI.out.2.1.block _ HGB.out).trans HY0.out)
          have HNX : Hid (∀ j, j < n + 1 → j = n → (ws.getD j Wt0).key = (ws.getD n Wt0).key) := hide (fun j _ e => by rw [e])
          have HTW : Hid ((ws.getD n Wt0).key.toList = y1.toList → R = 12) := hide (fun h => by rw [HR1.out, if_pos (once_not hln (by rw [HLN.out]; exact hlm) (by rw [HY.out]; exact h))])
          generalize ws.getD n Wt0 = x at *
          obtain ⟨x1, x2, x3⟩ := x
          dsimp only at c0 c1 c2 HNX HTW
          have HBM : Hid (Below w.heap.size w (wr.alloc (.cells #[.string x1, .string x2, .bool x3] 46))) := hide (HI.out.1.alloc HI.out.1.size _)
          have HBV : Hid (Below wv.heap.size wv (wr.alloc (.cells #[.string x1, .string x2, .bool x3] 46))) := hide (HI.out.2.1.alloc HI.out.2.1.size _)
          have q0 : (wr.alloc (.cells #[.string x1, .string x2, .bool x3] 46)).cell? ⟨gb, 0, none⟩ = some (.string y1) := cell_blk ((heap_alloc_old _ _ _ (heap_lt HYr.out)).trans HYr.out) rfl
          have hw2 : IntKind.i64.wrap ((n : Int) + 1) = (n : Int) + 1 := wr64' (by omega) (by omega)
          have hi6 : (n : Int) < (m : Int) := by omega
          have hi7 : (0 : Int) ≤ (n : Int) := by omega
          by_cases hq : x1.toList = y1.toList
          · have hqb : (x1.toList == y1.toList) = true := by simpa using hq
            have HR : Hid (R = 12) := hide (HTW.out hq)
            clear HNX HTW hq
            go_wp2
            go_ret
            exact ⟨ret_int HR.out.symm, HBM.out⟩
          · have hqb : (x1.toList == y1.toList) = false := by simpa using hq
            have HU : Hid (∀ j, j < n + 1 → ¬ (ws.getD j Wt0).key.toList = y1.toList) := hide (fun j hj => by
              by_cases e : j = n
              · rw [HNX.out j hj e]; exact hq
              · exact HI.out.2.2 j (by omega))
            clear HNX HTW hq
            go_wp2
            go_roundw
            case rel => exact ⟨n + 1, by omega, by simp, hide ⟨HBM.out, HBV.out, HU.out⟩⟩
            case measure => simp [intOf]; omega
end Go.Proofs.Ytpgdmkjfgmiacaa

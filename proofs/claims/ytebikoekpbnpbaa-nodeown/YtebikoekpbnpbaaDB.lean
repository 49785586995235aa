/- the document's rises, made -/
import Derived.Test.YtebikoekpbnpbaaPB
namespace Go.Proofs.Ytebikoekpbnpbaa
open Go.RowKit Cod
set_option maxRecDepth 100000
set_option linter.unusedVariables false
set_option linter.unusedSimpArgs false
theorem short_no {m : Nat} {L : List (List Nat)} {k : Nat} (hk : k < L.length) (h : m < (L.getD k []).length) : shortB m L = false := by
  cases e : shortB m L with
  | false => rfl
  | true =>
    unfold shortB at e
    rw [List.all_eq_true] at e
    have := of_decide_eq_true (e _ (getD_mem hk))
    omega
theorem short_yes {m : Nat} {L : List (List Nat)} (h : ∀ j, j < L.length → (L.getD j []).length ≤ m) : shortB m L = true := by
  unfold shortB
  rw [List.all_eq_true]
  intro x hx
  obtain ⟨i, hi, e⟩ := List.getElem_of_mem hx
  have := h i hi
  rw [List.getD_eq_getElem?_getD, List.getElem?_eq_getElem hi] at this
  rw [← e]
  exact decide_eq_true this
theorem keys_no1 {L : List (List Nat)} {k : Nat} (hk : k < L.length) (h : 256 < (L.getD k []).length) : keysB L = false := by
  unfold keysB
  rw [short_no hk h, Bool.and_false]
theorem keys_no2 {L : List (List Nat)} {k : Nat} (hk : k < L.length) (h : riseAt L k = false) : keysB L = false := by
  unfold keysB
  rw [rise_not hk h, Bool.false_and]
theorem keys_yes {L : List (List Nat)} (h : ∀ j, j < L.length → riseAt L j = true ∧ (L.getD j []).length ≤ 256) : keysB L = true := by
  unfold keysB
  rw [rise_at (k := L.length) (fun j hj => (h j hj).1) rfl, short_yes (fun j hj => (h j hj).2)]
  rfl
set_option maxHeartbeats 4000000 in
/-- ladingref06.rises -/
theorem rises_any (a : Option Addr) (n c : Nat) (L : List (List Nat)) (w : World) (h : IsL w a n c L) (hn : n ≤ 2000000) :
    Calls Try.prog 62 #[.slice a n c] w fun e w' => e = .returned (.bool (keysB L)) ∧ Below w.heap.size w w' := by
  have HG := hide h
  have HLN : Hid (L.length = n) := hide h.1
  clear h
  obtain ⟨R, hR⟩ : ∃ R, R = keysB L := ⟨_, rfl⟩
  rw [← hR]
  have HR := hide hR
  clear hR
  go_enter Try.func62, Try.ntmps62
  go_wp2
  go_loopw [7] (fun i W => ∃ (k : Nat), k ≤ n ∧ i = .int .i64 (k : Nat) ∧ Hid ((∀ j, j < k → riseAt L j = true ∧ (L.getD j []).length ≤ 256) ∧ Below w.heap.size w W)) (fun i _ => n - (intOf i).toNat)
  case atStart => exact ⟨0, Nat.zero_le _, rfl, hide ⟨fun j hj => absurd hj (Nat.not_lt_zero _), Below.refl _ _⟩⟩
  case round =>
    obtain ⟨k, hk, rfl, HI⟩ := hrel
    by_cases hlt : k < n
    · have hkI : (k : Int) < (n : Int) := by omega
      have hk0 : (0 : Int) ≤ (k : Int) := by omega
      have hwk : IntKind.i64.wrap ((k : Int) + 1) = (k : Int) + 1 := wrapN (by omega) (by omega)
      obtain ⟨b1, o1, a1, n1, c1, rfl, hb1, z1, hB1⟩ := (HG.out.below HI.out.2).2.2.2.2 k hlt
      have HNX : Hid (∀ i, Below w.heap.size w (wr.drewN i)) := hide (fun i => HI.out.2.trans ((below_drewN i).mono HI.out.2.size))
      have HL1 : Hid ((L.getD k []).length = n1) := hide hB1.1
      by_cases hg : 256 < n1
      · have hgI : (256 : Int) < (n1 : Int) := by omega
        have HF : Hid (R = false) := hide (HR.out.trans (keys_no1 (by rw [HLN.out]; exact hlt) (by rw [HL1.out]; exact hg)))
        clear hB1
        go_wp2
        first | go_quiet (fail) | skip
        try go_wp2
        go_ret
        exact ⟨by rw [HF.out]; rfl, by first | exact HNX.out _ | exact HI.out.2⟩
      · have hgI : ¬ (256 : Int) < (n1 : Int) := by omega
        by_cases h0 : k = 0
        · have hkn1 : decide (0 < k) = false := decide_eq_false (by omega)
          have hgd1 : decide (256 < n1) = false := decide_eq_false (by omega)
          have hgd2 : decide ((256 : Int) < (n1 : Int)) = false := decide_eq_false (by omega)
          have HS : Hid (∀ j, j < k + 1 → riseAt L j = true ∧ (L.getD j []).length ≤ 256) := hide (fun j hj => by
            obtain rfl : j = k := by omega
            exact ⟨by unfold riseAt; rw [decide_eq_true h0]; rfl, by rw [HL1.out]; omega⟩)
          clear hB1 h0
          go_wp2
          refine wp_region_held_drew (S := fun _ : World => True) (by kernel_rfl) ?hSzz (fun hHeld => ?_)
          case hSzz => exact trivial
          refine hTake (i := 0) (v := ?v0zz) (some 12) rfl rfl (by kernel_rfl) (by kernel_rfl) (by kernel_rfl) (fun _ _ _ h => h) (by rfl) (by assumption) ?hy0zz ?hn0zz
          case hy0zz => (intro w hSw; (try dsimp only at hSw); skip; go_simp; try with_reducible rfl)
          try simp only [Act.put, List.setIfInBounds_toArray, List.set_cons_zero, List.set_cons_succ]
          refine hTake (i := 1) (v := ?v1zz) (some 13) rfl rfl (by kernel_rfl) (by kernel_rfl) (by kernel_rfl) (fun _ _ _ h => h) (by rfl) (by assumption) ?hy1zz ?hn1zz
          case hy1zz => (intro w hSw; (try dsimp only at hSw); skip; go_simp; try with_reducible rfl)
          try simp only [Act.put, List.setIfInBounds_toArray, List.set_cons_zero, List.set_cons_succ]
          refine hTake (i := 2) (v := ?v2zz) (some 14) rfl rfl (by kernel_rfl) (by kernel_rfl) (by kernel_rfl) (fun _ _ _ h => h) (by rfl) (by assumption) ?hy2zz ?hn2zz
          case hy2zz => (intro w hSw; (try dsimp only at hSw); skip; go_simp; try with_reducible rfl)
          try simp only [Act.put, List.setIfInBounds_toArray, List.set_cons_zero, List.set_cons_succ]
          refine hTake (i := 3) (v := ?v3zz) (some 15) rfl rfl (by kernel_rfl) (by kernel_rfl) (by kernel_rfl) (fun _ _ _ h => h) (by rfl) (by assumption) ?hy3zz ?hn3zz
          case hy3zz => (intro w hSw; (try dsimp only at hSw); skip; go_simp; try with_reducible rfl)
          try simp only [Act.put, List.setIfInBounds_toArray, List.set_cons_zero, List.set_cons_succ]
          refine hTake (i := 4) (v := ?v4zz) (some 16) rfl rfl (by kernel_rfl) (by kernel_rfl) (by kernel_rfl) (fun _ _ _ h => h) (by rfl) (by assumption) ?hy4zz ?hn4zz
          case hy4zz => (intro w hSw; (try dsimp only at hSw); skip; go_simp; try with_reducible rfl)
          try simp only [Act.put, List.setIfInBounds_toArray, List.set_cons_zero, List.set_cons_succ]
          refine hTake (i := 5) (v := ?v5zz) (some 17) rfl rfl (by kernel_rfl) (by kernel_rfl) (by kernel_rfl) (fun _ _ _ h => h) (by rfl) (by assumption) ?hy5zz ?hn5zz
          case hy5zz => (intro w hSw; (try dsimp only at hSw); skip; go_simp; try with_reducible rfl)
          try simp only [Act.put, List.setIfInBounds_toArray, List.set_cons_zero, List.set_cons_succ]
          refine hTake (i := 6) (v := ?v6zz) (some 18) rfl rfl (by kernel_rfl) (by kernel_rfl) (by kernel_rfl) (fun _ _ _ h => h) (by rfl) (by assumption) ?hy6zz ?hn6zz
          case hy6zz => (intro w hSw; (try dsimp only at hSw); skip; go_simp; try with_reducible rfl)
          try simp only [Act.put, List.setIfInBounds_toArray, List.set_cons_zero, List.set_cons_succ]
          refine hSkip (i := 7) (some 19) rfl rfl (by kernel_rfl) (by kernel_rfl) (by kernel_rfl) (fun _ _ _ h => h) (by rfl) (by assumption) ?_
          try simp only [Act.put, List.setIfInBounds_toArray, List.set_cons_zero, List.set_cons_succ]
          refine hSkip (i := 8) (some 20) rfl rfl (by kernel_rfl) (by kernel_rfl) (by kernel_rfl) (fun _ _ _ h => h) (by rfl) (by assumption) ?_
          try simp only [Act.put, List.setIfInBounds_toArray, List.set_cons_zero, List.set_cons_succ]
          refine hSkip (i := 9) (some 21) rfl rfl (by kernel_rfl) (by kernel_rfl) (by kernel_rfl) (fun _ _ _ h => h) (by rfl) (by assumption) ?_
          try simp only [Act.put, List.setIfInBounds_toArray, List.set_cons_zero, List.set_cons_succ]
          refine hSkip (i := 10) (some 22) rfl rfl (by kernel_rfl) (by kernel_rfl) (by kernel_rfl) (fun _ _ _ h => h) (by rfl) (by assumption) ?_
          try simp only [Act.put, List.setIfInBounds_toArray, List.set_cons_zero, List.set_cons_succ]
          refine hSkip (i := 11) (some 23) rfl rfl (by kernel_rfl) (by kernel_rfl) (by kernel_rfl) (fun _ _ _ h => h) (by rfl) (by assumption) ?_
          try simp only [Act.put, List.setIfInBounds_toArray, List.set_cons_zero, List.set_cons_succ]
          refine hSkip (i := 12) (some 24) rfl rfl (by kernel_rfl) (by kernel_rfl) (by kernel_rfl) (fun _ _ _ h => h) (by rfl) (by assumption) ?_
          try simp only [Act.put, List.setIfInBounds_toArray, List.set_cons_zero, List.set_cons_succ]
          refine hSkip (i := 13) (some 25) rfl rfl (by kernel_rfl) (by kernel_rfl) (by kernel_rfl) (fun _ _ _ h => h) (by rfl) (by assumption) ?_
          try simp only [Act.put, List.setIfInBounds_toArray, List.set_cons_zero, List.set_cons_succ]
          refine hSkip (i := 14) (some 26) rfl rfl (by kernel_rfl) (by kernel_rfl) (by kernel_rfl) (fun _ _ _ h => h) (by rfl) (by assumption) ?_
          try simp only [Act.put, List.setIfInBounds_toArray, List.set_cons_zero, List.set_cons_succ]
          refine hSkip (i := 15) (some 27) rfl rfl (by kernel_rfl) (by kernel_rfl) (by kernel_rfl) (fun _ _ _ h => h) (by rfl) (by assumption) ?_
          try simp only [Act.put, List.setIfInBounds_toArray, List.set_cons_zero, List.set_cons_succ]
          refine hTake (i := 16) (v := ?v16zz) (some 28) rfl rfl (by kernel_rfl) (by kernel_rfl) (by kernel_rfl) (fun _ _ _ h => h) (by rfl) (by assumption) ?hy16zz ?hn16zz
          case hy16zz => (intro w hSw; (try dsimp only at hSw); skip; go_simp; try with_reducible rfl)
          try simp only [Act.put, List.setIfInBounds_toArray, List.set_cons_zero, List.set_cons_succ]
          refine hTake (i := 17) (v := ?v17zz) (some 29) rfl rfl (by kernel_rfl) (by kernel_rfl) (by kernel_rfl) (fun _ _ _ h => h) (by rfl) (by assumption) ?hy17zz ?hn17zz
          case hy17zz => (intro w hSw; (try dsimp only at hSw); skip; go_simp; try with_reducible rfl)
          try simp only [Act.put, List.setIfInBounds_toArray, List.set_cons_zero, List.set_cons_succ]
          refine wpAnyH_done (by kernel_rfl) ?_ _
          have HBD : Hid (Below w.heap.size w wr.drew) := hide HI.out.2.drew
          go_wp2
          go_roundw
          case rel => exact ⟨k + 1, by omega, by simp, hide ⟨HS.out, HBD.out⟩⟩
          case measure => simp [intOf]; omega
        · have HK0 := hide h0
          obtain ⟨b2, o2, a2, n2, c2, e2, hb2, z2, hB2⟩ := (HG.out.below HI.out.2).2.2.2.2 (k - 1) (by omega)
          cases e2
          obtain ⟨j, hj⟩ : ∃ j, j = k - 1 := ⟨_, rfl⟩
          rw [← hj] at z2
          have hkp : (0 : Int) < (k : Int) := by omega
          have hkp1 : decide (0 < k) = true := decide_eq_true (by omega)
          have hkp2 : decide ((0 : Int) < (k : Int)) = true := decide_eq_true (by omega)
          have hkp3 : 0 < k := by omega
          have hjw : IntKind.i64.wrap ((k : Int) - 1) = (j : Int) := by rw [show (k : Int) - 1 = (j : Int) by omega]; exact wrapN (by omega) (by omega)
          have hj1 : (j : Int) < (n : Int) := by omega
          have hj0 : (0 : Int) ≤ (j : Int) := by omega
          obtain ⟨x1, hx1⟩ : ∃ x, L.getD k [] = x := ⟨_, rfl⟩
          obtain ⟨x2, hx2⟩ : ∃ x, L.getD (k - 1) [] = x := ⟨_, rfl⟩
          rw [hx1] at hB1
          rw [hx2] at hB2
          have HXX : Hid (riseAt L k = ltN x2 x1) := hide (by unfold riseAt; rw [hx1, hx2, decide_eq_false h0, Bool.false_or])
          have hcv1 : ∀ i, (convert 26 9 (.slice a1 n1 c1)).run Try.prog (wr.drewN i) = .ok (.string (str x1)) (wr.drewN i) := fun i => conv_str (hB1.below (below_drewN i))
          have hcv2 : ∀ i, (convert 26 9 (.slice a2 n2 c2)).run Try.prog (wr.drewN i) = .ok (.string (str x2)) (wr.drewN i) := fun i => conv_str (hB2.below (below_drewN i))
          have hlss := less_strN hB2.2.2.2.1 hB1.2.2.2.1
          clear hB1 hB2 hx1 hx2 hj h0
          cases hlt2 : ltN x2 x1 with
          | false =>
            rw [hlt2] at hlss HXX
            have HF : Hid (R = false) := hide (HR.out.trans (keys_no2 (by rw [HLN.out]; exact hlt) HXX.out))
            clear hlt2
            go_wp2
            go_quiet (fail)
            go_wp2
            go_ret
            exact ⟨by rw [HF.out]; rfl, HNX.out _⟩
          | true =>
            rw [hlt2] at hlss HXX
            clear hlt2
            have HS : Hid (∀ j, j < k + 1 → riseAt L j = true ∧ (L.getD j []).length ≤ 256) := hide (fun j hj => by
              by_cases e : j = k
              · subst e; exact ⟨HXX.out, by rw [HL1.out]; omega⟩
              · exact HI.out.1 j (by omega))
            go_wp2
            go_quiet (fail)
            go_wp2
            go_roundw
            case rel => exact ⟨k + 1, by omega, by simp, hide ⟨HS.out, HNX.out _⟩⟩
            case measure => simp [intOf]; omega
    · obtain rfl : n = k := by omega
      have hkk : ¬ (n : Int) < (n : Int) := by omega
      have HF : Hid (R = true) := hide (HR.out.trans (keys_yes (by rw [HLN.out]; exact HI.out.1)))
      go_wp2
      go_ret
      exact ⟨by rw [HF.out]; rfl, HI.out.2⟩
end Go.Proofs.Ytebikoekpbnpbaa

/- PlanUndone, walked -/
import Derived.Test.YtmkholgflhaacaaH
namespace Go.Proofs.Ytmkholgflhaacaa
open Go.RowKit
set_option linter.unusedVariables false
theorem find_turn {a : Int} (h : tuB a = true) : ∃ k0 j0 : Nat, 1 ≤ k0 ∧ k0 ≤ 3 ∧ j0 < nL k0 ∧ (stepsL k0).getD j0 0 = a ∧ ∀ k j : Nat, 1 ≤ k → (k < k0 ∨ k = k0 ∧ j < j0) → j < nL k → (stepsL k).getD j 0 ≠ a := by
  have hd := of_decide_eq_true h
  rcases hd with rfl | rfl | rfl | rfl | rfl | rfl
  · exact ⟨1, 0, by omega, by omega, by decide, rfl, fun k j h1 h2 h3 => by omega⟩
  · refine ⟨1, 1, by omega, by omega, by decide, rfl, fun k j h1 h2 h3 => ?_⟩
    obtain rfl : k = 1 := by omega
    obtain rfl : j = 0 := by omega
    decide
  · refine ⟨1, 2, by omega, by omega, by decide, rfl, fun k j h1 h2 h3 => ?_⟩
    obtain rfl : k = 1 := by omega
    rcases (by omega : j = 0 ∨ j = 1) with rfl | rfl <;> decide
  · refine ⟨1, 3, by omega, by omega, by decide, rfl, fun k j h1 h2 h3 => ?_⟩
    obtain rfl : k = 1 := by omega
    rcases (by omega : j = 0 ∨ j = 1 ∨ j = 2) with rfl | rfl | rfl <;> decide
  · refine ⟨1, 4, by omega, by omega, by decide, rfl, fun k j h1 h2 h3 => ?_⟩
    obtain rfl : k = 1 := by omega
    rcases (by omega : j = 0 ∨ j = 1 ∨ j = 2 ∨ j = 3) with rfl | rfl | rfl | rfl <;> decide
  · refine ⟨3, 0, by omega, by omega, by decide, rfl, fun k j h1 h2 h3 => ?_⟩
    have h5 := nL_le k
    rcases (by omega : k = 1 ∨ k = 2) with rfl | rfl <;> rcases (by omega : j = 0 ∨ j = 1 ∨ j = 2 ∨ j = 3 ∨ j = 4) with rfl | rfl | rfl | rfl | rfl <;> decide
theorem un_un (a : Int) (h : unB a = true) : unB (unV a) = false ∧ tuB (unV a) = false ∧ u8B (unV a) := by
  have hd := of_decide_eq_true h
  rcases hd with rfl | rfl | rfl | rfl <;> exact ⟨by decide, by decide, by unfold u8B; decide⟩
theorem un_inj {a b : Int} (ha : unB a = true) (hb : unB b = true) (hne : a ≠ b) : unV a ≠ unV b := by
  have h1 := of_decide_eq_true ha
  have h2 := of_decide_eq_true hb
  rcases h1 with rfl | rfl | rfl | rfl <;> rcases h2 with rfl | rfl | rfl | rfl <;> first | exact absurd rfl hne | decide
set_option maxRecDepth 8000 in
set_option maxHeartbeats 1000000 in
theorem undoneWalk (a b : Int) (w : World) (ha : u8B a) (hb : u8B b) : Calls Try.prog 8 #[.int .u8 a, .int .u8 b] w fun e w' => e = .returned (.bool true) ∧ Below w.heap.size w w' := by
  have HLV := hide lives_any
  have HUA := hide (un_any a ha)
  have HUB := hide (un_any b hb)
  have HUU := hide (un_un a)
  have HIN := hide (fun (h1 : unB a = true) (h2 : unB b = true) (hne : a ≠ b) => un_inj h1 h2 hne)
  have HUX := hide (fun (h : unB a = true) => un_any (unV a) (un_un a h).2.2)
  have HTX := hide (tu_any (unV a))
  have HTA := hide (tu_any a)
  have HFT := hide (fun h => find_turn (a := a) h)
  have HST := hide (fun (k : Nat) (hk : k ≤ 3) => steps_at (k : Int) (by unfold u8B; omega))
  clear ha hb
  generalize unV a = x at *
  generalize unB a = xa at *
  generalize unV b = y at *
  generalize unB b = yb at *
  generalize tuB a = ta at *
  cases xa
  · clear HUU HIN HUX
    go_enter Try.func8, Try.ntmps8
    go_wp2_with fail
    refine (HLV.out w).mono ?_
    rintro e w1 ⟨rfl, b1⟩
    have HB1 := hide b1
    clear b1
    go_wp2_with fail
    refine (HUA.out w1).mono ?_
    rintro e w2 ⟨rfl, b2⟩
    have HB2 : Hid (Below w.heap.size w w2) := hide (HB1.out.trans (b2.mono HB1.out.size))
    clear b2 HB1
    go_wp2_with fail
    refine (HUB.out w2).mono ?_
    rintro e w3 ⟨rfl, b3⟩
    have HB3 : Hid (Below w.heap.size w w3) := hide (HB2.out.trans (b3.mono HB2.out.size))
    clear b3 HB2
    go_wp2_with fail
    refine (HTA.out w3).mono ?_
    rintro e w' ⟨rfl, he'⟩
    obtain rfl := he'.symm
    clear he'
    cases ta
    · go_wp2
      go_ret
      exact ⟨rfl, HB3.out⟩
    · obtain ⟨k0, j0, hk1, hk3, hj0, hfd, hnot⟩ := HFT.out rfl
      have HFD := hide hfd
      have HNOT := hide hnot
      have HJ0 := hide hj0
      clear hfd hnot hj0
      go_wp2
      go_loopw [11] (fun kv wr => ∃ k : Nat, 1 ≤ k ∧ k ≤ k0 ∧ kv = .int .u8 k ∧ Hid (Below w.heap.size w wr)) (fun kv _ => 4 - (intOf kv).toNat)
      case atStart => exact ⟨1, by omega, by omega, by simp, HB3⟩
      case round =>
        obtain ⟨k, hka, hkb, rfl, HB⟩ := hrel
        have hk4 : (k : Int) < 4 := by omega
        have hwk : IntKind.u8.wrap ((k : Int) + 1) = (k : Int) + 1 := by simp [IntKind.wrap_u8]; omega
        have HNK := hide (nL_le (k : Int))
        have HLN : Hid ((stepsL (k : Int)).length = nL (k : Int)) := hide rfl
        have HNK0 : Hid (k = k0 → j0 < nL (k : Int)) := hide (fun e => by rw [e]; exact HJ0.out)
        have HHIT : Hid (k = k0 → (stepsL (k : Int)).getD j0 0 = a) := hide (fun e => by rw [e]; exact HFD.out)
        have HMISS : Hid (∀ j, (k < k0 ∨ k = k0 ∧ j < j0) → j < nL (k : Int) → (stepsL (k : Int)).getD j 0 ≠ a) := hide (fun j h1 h2 => HNOT.out k j hka h1 h2)
        have HSK := hide (HST.out k (by omega))
        generalize nL (k : Int) = N at *
        generalize stepsL (k : Int) = SL at *
        go_wp2_with fail
        refine (HSK.out wr).mono ?_
        rintro e w6 ⟨a6, c6, rfl, HO6, b6⟩
        have HB6 : Hid (Below w.heap.size w w6) := hide (HB.out.trans (b6.mono HB.out.size))
        obtain ⟨a', c', he, hcell⟩ := HO6.out.form
        rw [HLN.out] at he hcell
        cases he
        have HCE := hide hcell
        clear hcell b6 HO6 HSK
        have hN5 : (N : Int) ≤ 5 := by have := HNK.out; omega
        go_wp2
        go_loopw [61] (fun jv wq => ∃ j : Nat, j ≤ N ∧ (k = k0 → j ≤ j0) ∧ jv = .int .i64 j ∧ wq = w6) (fun jv _ => N - (intOf jv).toNat)
        case atStart => exact ⟨0, by omega, fun _ => by omega, by simp, rfl⟩
        case round =>
          obtain ⟨j, hjN, hjk, rfl, hw⟩ := hrel
          obtain rfl := hw.symm
          clear hw
          by_cases hlt : j < N
          · obtain ⟨g, rfl, _, _, hgc, _⟩ := HCE.out j hlt
            have hjI : (j : Int) < (N : Int) := by omega
            by_cases hhit : k = k0 ∧ j = j0
            · have hx : SL.getD j 0 = a := by rw [hhit.2]; exact HHIT.out hhit.1
              rw [hx] at hgc
              clear hhit hx
              go_wp2
              go_ret
              exact ⟨rfl, HB6.out⟩
            · have hne : ¬ SL.getD j 0 = a := HMISS.out j (by
                by_cases e : k = k0
                · have := hjk e
                  exact .inr ⟨e, by omega⟩
                · exact .inl (by omega)) hlt
              have HJK : Hid (k = k0 → j + 1 ≤ j0) := hide (fun e => by have := hjk e; omega)
              generalize SL.getD j 0 = xx at *
              clear hhit hjk
              go_wp2
              go_roundw
              case rel => exact ⟨j + 1, by omega, HJK.out, by simp, by trivial⟩
              case measure => simp [intOf]; omega
          · obtain rfl : j = N := by omega
            have hkk : k < k0 := by
              by_cases e : k = k0
              · have := hjk e
                have := HNK0.out e
                omega
              · omega
            clear hjk
            go_wp2
            go_roundw
            case rel => exact ⟨k + 1, by omega, by omega, by simp, HB6⟩
            case measure => simp [intOf]; omega
  · have hxx := (HUU.out rfl)
    have HUX2 := hide (HUX.out rfl)
    rw [hxx.1] at HUX2
    rw [hxx.2.1] at HTX
    clear hxx
    cases yb
    · clear HUU HIN HUX
      go_enter Try.func8, Try.ntmps8
      go_wp2_with fail
      refine (HLV.out w).mono ?_
      rintro e w1 ⟨rfl, b1⟩
      have HB1 := hide b1
      clear b1
      go_wp2_with fail
      refine (HUA.out w1).mono ?_
      rintro e w2 ⟨rfl, b2⟩
      have HB2 : Hid (Below w.heap.size w w2) := hide (HB1.out.trans (b2.mono HB1.out.size))
      clear b2 HB1
      go_wp2_with fail
      refine (HUB.out w2).mono ?_
      rintro e w3 ⟨rfl, b3⟩
      have HB3 : Hid (Below w.heap.size w w3) := hide (HB2.out.trans (b3.mono HB2.out.size))
      clear b3 HB2
      go_wp2_with fail
      refine (HUX2.out w3).mono ?_
      rintro e w4 ⟨rfl, b4⟩
      have HB4 : Hid (Below w.heap.size w w4) := hide (HB3.out.trans (b4.mono HB3.out.size))
      clear b4
      go_wp2_with fail
      refine (HTX.out w4).mono ?_
      rintro e w' ⟨rfl, he'⟩
      obtain rfl := he'.symm
      clear he'
      go_wp2_with fail
      refine (HTA.out w4).mono ?_
      rintro e w' ⟨rfl, he'⟩
      obtain rfl := he'.symm
      clear he'
      cases ta
      · go_wp2
        go_ret
        exact ⟨rfl, HB4.out⟩
      · obtain ⟨k0, j0, hk1, hk3, hj0, hfd, hnot⟩ := HFT.out rfl
        have HFD := hide hfd
        have HNOT := hide hnot
        have HJ0 := hide hj0
        clear hfd hnot hj0
        go_wp2
        go_loopw [11] (fun kv wr => ∃ k : Nat, 1 ≤ k ∧ k ≤ k0 ∧ kv = .int .u8 k ∧ Hid (Below w.heap.size w wr)) (fun kv _ => 4 - (intOf kv).toNat)
        case atStart => exact ⟨1, by omega, by omega, by simp, HB4⟩
        case round =>
          obtain ⟨k, hka, hkb, rfl, HB⟩ := hrel
          have hk4 : (k : Int) < 4 := by omega
          have hwk : IntKind.u8.wrap ((k : Int) + 1) = (k : Int) + 1 := by simp [IntKind.wrap_u8]; omega
          have HNK := hide (nL_le (k : Int))
          have HLN : Hid ((stepsL (k : Int)).length = nL (k : Int)) := hide rfl
          have HNK0 : Hid (k = k0 → j0 < nL (k : Int)) := hide (fun e => by rw [e]; exact HJ0.out)
          have HHIT : Hid (k = k0 → (stepsL (k : Int)).getD j0 0 = a) := hide (fun e => by rw [e]; exact HFD.out)
          have HMISS : Hid (∀ j, (k < k0 ∨ k = k0 ∧ j < j0) → j < nL (k : Int) → (stepsL (k : Int)).getD j 0 ≠ a) := hide (fun j h1 h2 => HNOT.out k j hka h1 h2)
          have HSK := hide (HST.out k (by omega))
          generalize nL (k : Int) = N at *
          generalize stepsL (k : Int) = SL at *
          go_wp2_with fail
          refine (HSK.out wr).mono ?_
          rintro e w6 ⟨a6, c6, rfl, HO6, b6⟩
          have HB6 : Hid (Below w.heap.size w w6) := hide (HB.out.trans (b6.mono HB.out.size))
          obtain ⟨a', c', he, hcell⟩ := HO6.out.form
          rw [HLN.out] at he hcell
          cases he
          have HCE := hide hcell
          clear hcell b6 HO6 HSK
          have hN5 : (N : Int) ≤ 5 := by have := HNK.out; omega
          go_wp2
          go_loopw [61] (fun jv wq => ∃ j : Nat, j ≤ N ∧ (k = k0 → j ≤ j0) ∧ jv = .int .i64 j ∧ wq = w6) (fun jv _ => N - (intOf jv).toNat)
          case atStart => exact ⟨0, by omega, fun _ => by omega, by simp, rfl⟩
          case round =>
            obtain ⟨j, hjN, hjk, rfl, hw⟩ := hrel
            obtain rfl := hw.symm
            clear hw
            by_cases hlt : j < N
            · obtain ⟨g, rfl, _, _, hgc, _⟩ := HCE.out j hlt
              have hjI : (j : Int) < (N : Int) := by omega
              by_cases hhit : k = k0 ∧ j = j0
              · have hx : SL.getD j 0 = a := by rw [hhit.2]; exact HHIT.out hhit.1
                rw [hx] at hgc
                clear hhit hx
                go_wp2
                go_ret
                exact ⟨rfl, HB6.out⟩
              · have hne : ¬ SL.getD j 0 = a := HMISS.out j (by
                  by_cases e : k = k0
                  · have := hjk e
                    exact .inr ⟨e, by omega⟩
                  · exact .inl (by omega)) hlt
                have HJK : Hid (k = k0 → j + 1 ≤ j0) := hide (fun e => by have := hjk e; omega)
                generalize SL.getD j 0 = xx at *
                clear hhit hjk
                go_wp2
                go_roundw
                case rel => exact ⟨j + 1, by omega, HJK.out, by simp, by trivial⟩
                case measure => simp [intOf]; omega
            · obtain rfl : j = N := by omega
              have hkk : k < k0 := by
                by_cases e : k = k0
                · have := hjk e
                  have := HNK0.out e
                  omega
                · omega
              clear hjk
              go_wp2
              go_roundw
              case rel => exact ⟨k + 1, by omega, by omega, by simp, HB6⟩
              case measure => simp [intOf]; omega
    · by_cases hab : a = b
      · clear HUU HIN HUX
        subst hab
        go_enter Try.func8, Try.ntmps8
        go_wp2_with fail
        refine (HLV.out w).mono ?_
        rintro e w1 ⟨rfl, b1⟩
        have HB1 := hide b1
        clear b1
        go_wp2_with fail
        refine (HUA.out w1).mono ?_
        rintro e w2 ⟨rfl, b2⟩
        have HB2 : Hid (Below w.heap.size w w2) := hide (HB1.out.trans (b2.mono HB1.out.size))
        clear b2 HB1
        go_wp2_with fail
        refine (HUB.out w2).mono ?_
        rintro e w3 ⟨rfl, b3⟩
        have HB3 : Hid (Below w.heap.size w w3) := hide (HB2.out.trans (b3.mono HB2.out.size))
        clear b3 HB2
        go_wp2_with fail
        refine (HUX2.out w3).mono ?_
        rintro e w4 ⟨rfl, b4⟩
        have HB4 : Hid (Below w.heap.size w w4) := hide (HB3.out.trans (b4.mono HB3.out.size))
        clear b4
        go_wp2_with fail
        refine (HTX.out w4).mono ?_
        rintro e w' ⟨rfl, he'⟩
        obtain rfl := he'.symm
        clear he'
        go_wp2_with fail
        refine (HTA.out w4).mono ?_
        rintro e w' ⟨rfl, he'⟩
        obtain rfl := he'.symm
        clear he'
        cases ta
        · go_wp2
          go_ret
          exact ⟨rfl, HB4.out⟩
        · obtain ⟨k0, j0, hk1, hk3, hj0, hfd, hnot⟩ := HFT.out rfl
          have HFD := hide hfd
          have HNOT := hide hnot
          have HJ0 := hide hj0
          clear hfd hnot hj0
          go_wp2
          go_loopw [11] (fun kv wr => ∃ k : Nat, 1 ≤ k ∧ k ≤ k0 ∧ kv = .int .u8 k ∧ Hid (Below w.heap.size w wr)) (fun kv _ => 4 - (intOf kv).toNat)
          case atStart => exact ⟨1, by omega, by omega, by simp, HB4⟩
          case round =>
            obtain ⟨k, hka, hkb, rfl, HB⟩ := hrel
            have hk4 : (k : Int) < 4 := by omega
            have hwk : IntKind.u8.wrap ((k : Int) + 1) = (k : Int) + 1 := by simp [IntKind.wrap_u8]; omega
            have HNK := hide (nL_le (k : Int))
            have HLN : Hid ((stepsL (k : Int)).length = nL (k : Int)) := hide rfl
            have HNK0 : Hid (k = k0 → j0 < nL (k : Int)) := hide (fun e => by rw [e]; exact HJ0.out)
            have HHIT : Hid (k = k0 → (stepsL (k : Int)).getD j0 0 = a) := hide (fun e => by rw [e]; exact HFD.out)
            have HMISS : Hid (∀ j, (k < k0 ∨ k = k0 ∧ j < j0) → j < nL (k : Int) → (stepsL (k : Int)).getD j 0 ≠ a) := hide (fun j h1 h2 => HNOT.out k j hka h1 h2)
            have HSK := hide (HST.out k (by omega))
            generalize nL (k : Int) = N at *
            generalize stepsL (k : Int) = SL at *
            go_wp2_with fail
            refine (HSK.out wr).mono ?_
            rintro e w6 ⟨a6, c6, rfl, HO6, b6⟩
            have HB6 : Hid (Below w.heap.size w w6) := hide (HB.out.trans (b6.mono HB.out.size))
            obtain ⟨a', c', he, hcell⟩ := HO6.out.form
            rw [HLN.out] at he hcell
            cases he
            have HCE := hide hcell
            clear hcell b6 HO6 HSK
            have hN5 : (N : Int) ≤ 5 := by have := HNK.out; omega
            go_wp2
            go_loopw [61] (fun jv wq => ∃ j : Nat, j ≤ N ∧ (k = k0 → j ≤ j0) ∧ jv = .int .i64 j ∧ wq = w6) (fun jv _ => N - (intOf jv).toNat)
            case atStart => exact ⟨0, by omega, fun _ => by omega, by simp, rfl⟩
            case round =>
              obtain ⟨j, hjN, hjk, rfl, hw⟩ := hrel
              obtain rfl := hw.symm
              clear hw
              by_cases hlt : j < N
              · obtain ⟨g, rfl, _, _, hgc, _⟩ := HCE.out j hlt
                have hjI : (j : Int) < (N : Int) := by omega
                by_cases hhit : k = k0 ∧ j = j0
                · have hx : SL.getD j 0 = a := by rw [hhit.2]; exact HHIT.out hhit.1
                  rw [hx] at hgc
                  clear hhit hx
                  go_wp2
                  go_ret
                  exact ⟨rfl, HB6.out⟩
                · have hne : ¬ SL.getD j 0 = a := HMISS.out j (by
                    by_cases e : k = k0
                    · have := hjk e
                      exact .inr ⟨e, by omega⟩
                    · exact .inl (by omega)) hlt
                  have HJK : Hid (k = k0 → j + 1 ≤ j0) := hide (fun e => by have := hjk e; omega)
                  generalize SL.getD j 0 = xx at *
                  clear hhit hjk
                  go_wp2
                  go_roundw
                  case rel => exact ⟨j + 1, by omega, HJK.out, by simp, by trivial⟩
                  case measure => simp [intOf]; omega
              · obtain rfl : j = N := by omega
                have hkk : k < k0 := by
                  by_cases e : k = k0
                  · have := hjk e
                    have := HNK0.out e
                    omega
                  · omega
                clear hjk
                go_wp2
                go_roundw
                case rel => exact ⟨k + 1, by omega, by omega, by simp, HB6⟩
                case measure => simp [intOf]; omega
      · have hxy := HIN.out rfl rfl hab
        have hxyb : (x == y) = false := by simpa using hxy
        have habb : (a != b) = true := by simpa using hab
        clear HUU HIN HUX
        go_enter Try.func8, Try.ntmps8
        go_wp2_with fail
        refine (HLV.out w).mono ?_
        rintro e w1 ⟨rfl, b1⟩
        have HB1 := hide b1
        clear b1
        go_wp2_with fail
        refine (HUA.out w1).mono ?_
        rintro e w2 ⟨rfl, b2⟩
        have HB2 : Hid (Below w.heap.size w w2) := hide (HB1.out.trans (b2.mono HB1.out.size))
        clear b2 HB1
        go_wp2_with fail
        refine (HUB.out w2).mono ?_
        rintro e w3 ⟨rfl, b3⟩
        have HB3 : Hid (Below w.heap.size w w3) := hide (HB2.out.trans (b3.mono HB2.out.size))
        clear b3 HB2
        clear hab hxy
        go_wp2_with fail
        refine (HUX2.out w3).mono ?_
        rintro e w4 ⟨rfl, b4⟩
        have HB4 : Hid (Below w.heap.size w w4) := hide (HB3.out.trans (b4.mono HB3.out.size))
        clear b4
        go_wp2_with fail
        refine (HTX.out w4).mono ?_
        rintro e w' ⟨rfl, he'⟩
        obtain rfl := he'.symm
        clear he'
        go_wp2_with fail
        refine (HTA.out w4).mono ?_
        rintro e w' ⟨rfl, he'⟩
        obtain rfl := he'.symm
        clear he'
        cases ta
        · go_wp2
          go_ret
          exact ⟨rfl, HB4.out⟩
        · obtain ⟨k0, j0, hk1, hk3, hj0, hfd, hnot⟩ := HFT.out rfl
          have HFD := hide hfd
          have HNOT := hide hnot
          have HJ0 := hide hj0
          clear hfd hnot hj0 hxyb habb
          go_wp2
          go_loopw [11] (fun kv wr => ∃ k : Nat, 1 ≤ k ∧ k ≤ k0 ∧ kv = .int .u8 k ∧ Hid (Below w.heap.size w wr)) (fun kv _ => 4 - (intOf kv).toNat)
          case atStart => exact ⟨1, by omega, by omega, by simp, HB4⟩
          case round =>
            obtain ⟨k, hka, hkb, rfl, HB⟩ := hrel
            have hk4 : (k : Int) < 4 := by omega
            have hwk : IntKind.u8.wrap ((k : Int) + 1) = (k : Int) + 1 := by simp [IntKind.wrap_u8]; omega
            have HNK := hide (nL_le (k : Int))
            have HLN : Hid ((stepsL (k : Int)).length = nL (k : Int)) := hide rfl
            have HNK0 : Hid (k = k0 → j0 < nL (k : Int)) := hide (fun e => by rw [e]; exact HJ0.out)
            have HHIT : Hid (k = k0 → (stepsL (k : Int)).getD j0 0 = a) := hide (fun e => by rw [e]; exact HFD.out)
            have HMISS : Hid (∀ j, (k < k0 ∨ k = k0 ∧ j < j0) → j < nL (k : Int) → (stepsL (k : Int)).getD j 0 ≠ a) := hide (fun j h1 h2 => HNOT.out k j hka h1 h2)
            have HSK := hide (HST.out k (by omega))
            generalize nL (k : Int) = N at *
            generalize stepsL (k : Int) = SL at *
            go_wp2_with fail
            refine (HSK.out wr).mono ?_
            rintro e w6 ⟨a6, c6, rfl, HO6, b6⟩
            have HB6 : Hid (Below w.heap.size w w6) := hide (HB.out.trans (b6.mono HB.out.size))
            obtain ⟨a', c', he, hcell⟩ := HO6.out.form
            rw [HLN.out] at he hcell
            cases he
            have HCE := hide hcell
            clear hcell b6 HO6 HSK
            have hN5 : (N : Int) ≤ 5 := by have := HNK.out; omega
            go_wp2
            go_loopw [61] (fun jv wq => ∃ j : Nat, j ≤ N ∧ (k = k0 → j ≤ j0) ∧ jv = .int .i64 j ∧ wq = w6) (fun jv _ => N - (intOf jv).toNat)
            case atStart => exact ⟨0, by omega, fun _ => by omega, by simp, rfl⟩
            case round =>
              obtain ⟨j, hjN, hjk, rfl, hw⟩ := hrel
              obtain rfl := hw.symm
              clear hw
              by_cases hlt : j < N
              · obtain ⟨g, rfl, _, _, hgc, _⟩ := HCE.out j hlt
                have hjI : (j : Int) < (N : Int) := by omega
                by_cases hhit : k = k0 ∧ j = j0
                · have hx : SL.getD j 0 = a := by rw [hhit.2]; exact HHIT.out hhit.1
                  rw [hx] at hgc
                  clear hhit hx
                  go_wp2
                  go_ret
                  exact ⟨rfl, HB6.out⟩
                · have hne : ¬ SL.getD j 0 = a := HMISS.out j (by
                    by_cases e : k = k0
                    · have := hjk e
                      exact .inr ⟨e, by omega⟩
                    · exact .inl (by omega)) hlt
                  have HJK : Hid (k = k0 → j + 1 ≤ j0) := hide (fun e => by have := hjk e; omega)
                  generalize SL.getD j 0 = xx at *
                  clear hhit hjk
                  go_wp2
                  go_roundw
                  case rel => exact ⟨j + 1, by omega, HJK.out, by simp, by trivial⟩
                  case measure => simp [intOf]; omega
              · obtain rfl : j = N := by omega
                have hkk : k < k0 := by
                  by_cases e : k = k0
                  · have := hjk e
                    have := HNK0.out e
                    omega
                  · omega
                clear hjk
                go_wp2
                go_roundw
                case rel => exact ⟨k + 1, by omega, by omega, by simp, HB6⟩
                case measure => simp [intOf]; omega
end Go.Proofs.Ytmkholgflhaacaa

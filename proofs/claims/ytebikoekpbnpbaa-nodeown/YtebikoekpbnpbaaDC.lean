/- the document's made -/
import Derived.Test.YtebikoekpbnpbaaDB
namespace Go.Proofs.Ytebikoekpbnpbaa
open Go.RowKit Cod
set_option maxRecDepth 100000
set_option linter.unusedVariables false
set_option linter.unusedSimpArgs false
def madeB (p : Pg) : Bool := leafB p || innerB p
theorem kids_no {l : List Int} {k : Nat} (hk : k < l.length) (h : ¬ (1 ≤ l.getD k 0 ∧ l.getD k 0 < 1024)) : kidsB l = false := by
  cases e : kidsB l with
  | false => rfl
  | true =>
    unfold kidsB at e
    rw [List.all_eq_true] at e
    exact absurd (of_decide_eq_true (e _ (getD_memI hk))) h
theorem kids_yes {l : List Int} (h : ∀ j, j < l.length → 1 ≤ l.getD j 0 ∧ l.getD j 0 < 1024) : kidsB l = true := by
  unfold kidsB
  rw [List.all_eq_true]
  intro x hx
  obtain ⟨i, hi, e⟩ := List.getElem_of_mem hx
  have := h i hi
  rw [List.getD_eq_getElem?_getD, List.getElem?_eq_getElem hi] at this
  rw [← e]
  exact decide_eq_true this
theorem made_no1 {p : Pg} (h : keysB p.keys = false) : madeB p = false := by simp [madeB, leafB, innerB, h]
theorem made_no2 {p : Pg} {k : Nat} (hk : k < p.vals.length) (h : 512 < (p.vals.getD k []).length) : madeB p = false := by
  have h1 := short_no hk h
  have h2 : decide (p.vals.length = 0) = false := decide_eq_false (by omega)
  unfold madeB leafB innerB
  rw [h1, h2]
  simp
theorem made_no3 {p : Pg} {k : Nat} (hk : k < p.kids.length) (h : ¬ (1 ≤ p.kids.getD k 0 ∧ p.kids.getD k 0 < 1024)) : madeB p = false := by
  have h1 := kids_no hk h
  have h2 : decide (p.kids.length = 0) = false := decide_eq_false (by omega)
  unfold madeB leafB innerB
  rw [h1, h2]
  simp
theorem made_leaf {p : Pg} (hl : p.leaf = true) (h1 : keysB p.keys = true) (h2 : shortB 512 p.vals = true) : madeB p = (decide (p.vals.length = p.keys.length) && decide (p.kids.length = 0)) := by
  simp [madeB, leafB, innerB, hl, h1, h2]
theorem made_inner {p : Pg} (hl : p.leaf = false) (h1 : keysB p.keys = true) (h2 : kidsB p.kids = true) : madeB p = (decide (0 < p.keys.length) && decide (p.kids.length = p.keys.length + 1) && decide (p.vals.length = 0)) := by
  simp [madeB, leafB, innerB, hl, h1, h2]
set_option maxHeartbeats 4000000 in
/-- ladingref06.made -/
theorem made_any (v : Pv) (p : Pg) (w : World) (h : IsG w v p) (hc : FewP v) :
    Calls Try.prog 45 #[.agg (pgc p.leaf v)] w fun e w' => e = .returned (.bool (madeB p)) ∧ Below w.heap.size w w' := by
  obtain ⟨V0, hV0⟩ : ∃ V0, V0 = w.alloc (.cells (pgc p.leaf v) 25) := ⟨_, rfl⟩
  have HB0 : Hid (Below w.heap.size w V0) := hide (by rw [hV0]; exact (Below.refl _ w).alloc (Nat.le_refl _) _)
  have HX0 : Hid (V0.heap[w.heap.size]? = some (.cells (pgc p.leaf v) 25 (0, 0))) := hide (by rw [hV0, heap_alloc_new])
  have HRS := hide (rises_any v.ka v.kn v.kc p.keys V0 (h.keys.below HB0.out) hc.1)
  have HG := hide h
  have HLN : Hid (p.keys.length = v.kn ∧ p.vals.length = v.vn ∧ p.kids.length = v.inn) := hide ⟨h.keys.1, h.vals.1, h.kids.1⟩
  obtain ⟨lf, hlf⟩ : ∃ lf, lf = p.leaf := ⟨_, rfl⟩
  rw [← hlf] at HX0 hV0 ⊢
  have HLF := hide hlf
  have hkn := hc.1
  have hvn := hc.2.1
  have hin := hc.2.2
  clear hlf h hc
  obtain ⟨R, hR⟩ : ∃ R, R = madeB p := ⟨_, rfl⟩
  rw [← hR]
  have HR := hide hR
  clear hR
  obtain ⟨kb, hkb⟩ : ∃ kb, kb = keysB p.keys := ⟨_, rfl⟩
  rw [← hkb] at HRS
  have HKB := hide hkb
  clear hkb
  obtain ⟨ka, kn, kc, va, vn, vc, ia, inn, ic⟩ := v
  try dsimp only at HX0 HRS HLN hkn hvn hin
  try dsimp only
  go_enter Try.func45, Try.ntmps45
  go_wp2_with fail
  rw [← hV0]
  clear hV0
  refine HRS.out.mono ?_
  rintro e w1 ⟨rfl, hb1⟩
  have HB1 : Hid (Below w.heap.size w w1) := hide (HB0.out.trans (hb1.mono HB0.out.size))
  have HX1 : Hid (w1.heap[w.heap.size]? = some (.cells #[.bool lf, .slice ka kn kc, .slice va vn vc, .slice ia inn ic] 25 (0, 0))) := hide ((hb1.block _ (heap_ltN HX0.out)).trans HX0.out)
  clear hb1 HX0 HB0 HRS
  have q0 : w1.cell? ⟨w.heap.size, 0, none⟩ = some (.bool lf) := cell_blkN HX1.out rfl
  have q1 : w1.cell? ⟨w.heap.size, 1, none⟩ = some (.slice ka kn kc) := cell_blkN HX1.out rfl
  have q2 : w1.cell? ⟨w.heap.size, 2, none⟩ = some (.slice va vn vc) := cell_blkN HX1.out rfl
  have q3 : w1.cell? ⟨w.heap.size, 3, none⟩ = some (.slice ia inn ic) := cell_blkN HX1.out rfl
  cases kb with
  | false =>
    have HF : Hid (R = false) := hide (HR.out.trans (made_no1 HKB.out.symm))
    go_wp2
    go_ret
    exact ⟨by rw [HF.out]; rfl, HB1.out⟩
  | true =>
    go_wp2
    go_loopw [14] (fun i W => ∃ (k : Nat), k ≤ vn ∧ i = .int .i64 (k : Nat) ∧ W = w1 ∧ Hid (∀ j, j < k → (p.vals.getD j []).length ≤ 512)) (fun i _ => vn - (intOf i).toNat)
    case atStart => exact ⟨0, Nat.zero_le _, rfl, rfl, hide (fun j hj => absurd hj (Nat.not_lt_zero _))⟩
    case round =>
      obtain ⟨k, hk, rfl, hw, HI⟩ := hrel
      obtain rfl := hw.symm
      clear hw
      by_cases hlt : k < vn
      · have hkI : (k : Int) < (vn : Int) := by omega
        have hk0 : (0 : Int) ≤ (k : Int) := by omega
        have hwk : IntKind.i64.wrap ((k : Int) + 1) = (k : Int) + 1 := wrapN (by omega) (by omega)
        obtain ⟨b1, o1, a1, n1, c1, rfl, hb1, z1, hB1⟩ := (HG.out.below HB1.out).vals.2.2.2.2 k hlt
        have HL1 : Hid ((p.vals.getD k []).length = n1) := hide hB1.1
        clear hB1
        by_cases hg : 512 < n1
        · have hgI : (512 : Int) < (n1 : Int) := by omega
          have HF : Hid (R = false) := hide (HR.out.trans (made_no2 (by rw [HLN.out.2.1]; exact hlt) (by rw [HL1.out]; exact hg)))
          go_wp2
          go_ret
          exact ⟨by rw [HF.out]; rfl, HB1.out⟩
        · have hgI : ¬ (512 : Int) < (n1 : Int) := by omega
          have HS : Hid (∀ j, j < k + 1 → (p.vals.getD j []).length ≤ 512) := hide (fun j hj => by
            by_cases e : j = k
            · subst e; rw [HL1.out]; omega
            · exact HI.out j (by omega))
          go_wp2
          go_roundw
          case rel => exact ⟨k + 1, by omega, by simp, by first | trivial | rfl, HS⟩
          case measure => simp [intOf]; omega
      · obtain rfl : vn = k := by omega
        have hkk : ¬ (vn : Int) < (vn : Int) := by omega
        have HSV : Hid (shortB 512 p.vals = true) := hide (short_yes (by rw [HLN.out.2.1]; exact HI.out))
        go_wp2
        clear hkk hlt hk HI
        go_loopw [25] (fun i W => ∃ (k : Nat), k ≤ inn ∧ i = .int .i64 (k : Nat) ∧ W = w1 ∧ Hid (∀ j, j < k → 1 ≤ p.kids.getD j 0 ∧ p.kids.getD j 0 < 1024)) (fun i _ => inn - (intOf i).toNat)
        case atStart => exact ⟨0, Nat.zero_le _, rfl, rfl, hide (fun j hj => absurd hj (Nat.not_lt_zero _))⟩
        case round =>
          obtain ⟨k, hk, rfl, hw, HI⟩ := hrel
          obtain rfl := hw.symm
          clear hw
          by_cases hlt : k < inn
          · have hkI : (k : Int) < (inn : Int) := by omega
            have hk0 : (0 : Int) ≤ (k : Int) := by omega
            have hwk : IntKind.i64.wrap ((k : Int) + 1) = (k : Int) + 1 := wrapN (by omega) (by omega)
            obtain ⟨_, b1, o1, rfl, hb1, z1⟩ := (HG.out.below HB1.out).kids.2.2.2.2 k hlt
            obtain ⟨x, hx⟩ : ∃ x, p.kids.getD k 0 = x := ⟨_, rfl⟩
            rw [hx] at z1
            have HX := hide hx
            clear hx
            by_cases h1 : x < 1
            · have h1d : decide (x < 1) = true := decide_eq_true h1
              have HF : Hid (R = false) := hide (HR.out.trans (made_no3 (by rw [HLN.out.2.2]; exact hlt) (by rw [HX.out]; omega)))
              go_wp2
              go_ret
              exact ⟨by rw [HF.out]; rfl, HB1.out⟩
            · by_cases h2 : 1023 < x
              · have HF : Hid (R = false) := hide (HR.out.trans (made_no3 (by rw [HLN.out.2.2]; exact hlt) (by rw [HX.out]; omega)))
                go_wp2
                go_ret
                exact ⟨by rw [HF.out]; rfl, HB1.out⟩
              · have HS : Hid (∀ j, j < k + 1 → 1 ≤ p.kids.getD j 0 ∧ p.kids.getD j 0 < 1024) := hide (fun j hj => by
                  by_cases e : j = k
                  · subst e; rw [HX.out]; omega
                  · exact HI.out j (by omega))
                go_wp2
                go_roundw
                case rel => exact ⟨k + 1, by omega, by simp, by first | trivial | rfl, HS⟩
                case measure => simp [intOf]; omega
          · obtain rfl : inn = k := by omega
            have hkk : ¬ (inn : Int) < (inn : Int) := by omega
            have HSK : Hid (kidsB p.kids = true) := hide (kids_yes (by rw [HLN.out.2.2]; exact HI.out))
            clear hlt hk HI
            cases lf with
            | true =>
              have HF : Hid (R = (decide (vn = kn) && decide (inn = 0))) := hide (by rw [HR.out, made_leaf HLF.out.symm HKB.out.symm HSV.out, HLN.out.1, HLN.out.2.1, HLN.out.2.2])
              by_cases e1 : vn = kn
              · have e1I : ((vn : Int) == (kn : Int)) = true := by simp [e1]
                have e1J : (vn == kn) = true := by simp [e1]
                have HE1 := hide e1
                clear e1
                by_cases e2 : inn = 0
                · have e2I : ((inn : Int) == 0) = true := by simp [e2]
                  have e2J : (inn == 0) = true := by simp [e2]
                  have HF2 : Hid (R = true) := hide (by rw [HF.out, decide_eq_true HE1.out, decide_eq_true e2]; rfl)
                  clear e2
                  go_wp2
                  go_ret
                  exact ⟨by rw [HF2.out]; rfl, HB1.out⟩
                · have e2I : ((inn : Int) == 0) = false := by simp [e2]
                  have e2J : (inn == 0) = false := by simp [e2]
                  have HF2 : Hid (R = false) := hide (by rw [HF.out, decide_eq_false e2, Bool.and_false])
                  clear e2
                  go_wp2
                  go_ret
                  exact ⟨by rw [HF2.out]; rfl, HB1.out⟩
              · have e1I : ((vn : Int) == (kn : Int)) = false := by simp; omega
                have e1J : (vn == kn) = false := by simp [e1]
                have HF2 : Hid (R = false) := hide (by rw [HF.out, decide_eq_false e1, Bool.false_and])
                clear e1
                go_wp2
                go_ret
                exact ⟨by rw [HF2.out]; rfl, HB1.out⟩
            | false =>
              have HF : Hid (R = (decide (0 < kn) && decide (inn = kn + 1) && decide (vn = 0))) := hide (by rw [HR.out, made_inner HLF.out.symm HKB.out.symm HSK.out, HLN.out.1, HLN.out.2.1, HLN.out.2.2])
              have hwn : IntKind.i64.wrap ((kn : Int) + 1) = (kn : Int) + 1 := wrapN (by omega) (by omega)
              by_cases e0 : 0 < kn
              · have e0I : (0 : Int) < (kn : Int) := by omega
                have e0J : decide (0 < kn) = true := decide_eq_true e0
                have HE0 := hide e0
                by_cases e1 : inn = kn + 1
                · have e1I : ((inn : Int) == (kn : Int) + 1) = true := by simp; omega
                  have HE1 := hide e1
                  clear e1
                  by_cases e2 : vn = 0
                  · have e2I : ((vn : Int) == 0) = true := by simp [e2]
                    have e2J : (vn == 0) = true := by simp [e2]
                    have HF2 : Hid (R = true) := hide (by rw [HF.out, decide_eq_true HE0.out, decide_eq_true HE1.out, decide_eq_true e2]; rfl)
                    clear e2
                    go_wp2
                    go_ret
                    exact ⟨by rw [HF2.out]; rfl, HB1.out⟩
                  · have e2I : ((vn : Int) == 0) = false := by simp [e2]
                    have e2J : (vn == 0) = false := by simp [e2]
                    have HF2 : Hid (R = false) := hide (by rw [HF.out, decide_eq_false e2, Bool.and_false])
                    clear e2
                    go_wp2
                    go_ret
                    exact ⟨by rw [HF2.out]; rfl, HB1.out⟩
                · have e1I : ((inn : Int) == (kn : Int) + 1) = false := by simp; omega
                  have HF2 : Hid (R = false) := hide (by rw [HF.out, decide_eq_false e1, Bool.and_false, Bool.false_and])
                  clear e1
                  go_wp2
                  go_ret
                  exact ⟨by rw [HF2.out]; rfl, HB1.out⟩
              · have e0J : decide (0 < kn) = false := decide_eq_false e0
                have e0K : decide ((0 : Int) < (kn : Int)) = false := decide_eq_false (by omega)
                have HF2 : Hid (R = false) := hide (by rw [HF.out, decide_eq_false e0, Bool.false_and, Bool.false_and])
                clear e0
                go_wp2
                go_ret
                exact ⟨by rw [HF2.out]; rfl, HB1.out⟩
end Go.Proofs.Ytebikoekpbnpbaa

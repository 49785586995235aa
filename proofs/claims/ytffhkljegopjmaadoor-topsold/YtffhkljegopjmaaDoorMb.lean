/- what is paid for one order -/
import Derived.Test.YtffhkljegopjmaaDoorGZa
namespace Go.Proofs.YtffhkljegopjmaaDoor.Lg
open Go.RowKit
set_option maxRecDepth 40000
/-- the row of one pay alone -/
def Aof (n : Int) (y : Py) : List Py := A0.set n.toNat y
theorem aof_set (n : Int) (y z : Py) : (Aof n y).set n.toNat z = Aof n z := by unfold Aof; rw [List.set_set]
theorem aof_pv {n : Int} (hn : ordB n = true) {y : Py} (h : noneB y = false) : pvA (Aof n y) n = y := set_pv idx_zero hn h
theorem aof_payV {n : Int} (hn : ordB n = true) {y : Py} (h : noneB y = false) : payV (Aof n y) n = y := by
  unfold Aof
  rw [payV_set idx_zero hn hn, if_pos rfl, if_neg (by rw [h]; decide)]
theorem aof_filter {n : Int} (hn : ordB n = true) {y : Py} (h : noneB y = false) : (Aof n y).filter keepB = [y] := by
  obtain ⟨F1, F2, e, _, _, hs⟩ := split_row idx_zero (t := n.toNat) (ord_nat hn).1
  have e0 : (List.replicate 1025 Py0).filter keepB = [] := a0_filter
  rw [e0] at e
  have h1 := List.append_eq_nil_iff.1 e.symm
  have h2 := List.append_eq_nil_iff.1 h1.1
  unfold Aof
  rw [hs, h2.1, h1.2]
  unfold oneL
  rw [h]
  rfl
theorem sold_no {n t : Int} (h : authE A0 [] n t ≠ 0) : n < 1 ∨ 1024 < n ∨ t < 1 ∨ 1152921504606846976 < t := by
  by_cases hn : ordB n = true
  · by_cases ha : amtB t = true
    · exfalso
      apply h
      have hb : behR (pvA A0 n) ⟨n, 1, 2, t⟩ = ⟨n, t, 0, 0⟩ := by rw [a0_pvn hn]; unfold behR; simp
      have hp := a0_pvn hn
      unfold authE
      rw [hb, if_neg (by rw [hn]; decide), if_neg (by rw [ha]; decide), if_neg (by rw [hp]; simp), if_neg (by simp)]
      have := (amtB_iff t).1 ha
      rw [if_neg (by unfold beyB; simp; omega)]
    · have := mt (amtB_iff t).2 ha
      omega
  · unfold ordB at hn
    simp at hn
    omega
theorem sold_led {n t : Int} (h : authE A0 [] n t = 0) : ordB n = true ∧ A0.set n.toNat (behR (pvA A0 n) ⟨n, 1, 2, t⟩) = Aof n ⟨n, t, 0, 0⟩ ∧
    (∀ g, setE (Aof n ⟨n, t, 0, 0⟩) [g] n 3 = 0) ∧ (pvA (Aof n ⟨n, t, 0, 0⟩) n).op = t ∧ (Aof n ⟨n, t, 0, 0⟩).set n.toNat (behR (pvA (Aof n ⟨n, t, 0, 0⟩) n) ⟨n, 2, 3, t⟩) = Aof n ⟨n, 0, t, 0⟩ ∧
    (∀ g g', refE (Aof n ⟨n, 0, t, 0⟩) [g, g'] n t = 0) ∧ (Aof n ⟨n, 0, t, 0⟩).set n.toNat (behR (pvA (Aof n ⟨n, 0, t, 0⟩) n) ⟨n, 3, 1, t⟩) = Aof n ⟨n, 0, t, t⟩ ∧ payV (Aof n ⟨n, 0, t, t⟩) n = ⟨n, 0, t, t⟩ ∧ num (balS ((Aof n ⟨n, 0, t, t⟩).filter keepB) 3) = 0 ∧ err (balS ((Aof n ⟨n, 0, t, t⟩).filter keepB) 3) = 0 := by
  obtain ⟨hn, ha, _, _, hb⟩ := auth_zero h
  have n1 : noneB ⟨n, t, 0, 0⟩ = false := noneB_op (by dsimp only; omega)
  have n2 : noneB ⟨n, 0, t, 0⟩ = false := noneB_ca (by dsimp only; omega)
  have n3 : noneB ⟨n, 0, t, t⟩ = false := noneB_ca (by dsimp only; omega)
  have p1 := aof_pv hn n1
  have p2 := aof_pv hn n2
  rw [a0_pvn hn] at hb
  dsimp only at hb
  have s0 : balS [⟨n, 0, t, t⟩] 3 = 0 := by simp [balS, bv]
  refine ⟨hn, by rw [a0_pvn hn, hb]; rfl, fun g => ?_, by rw [p1], ?_, fun g g' => ?_, ?_, aof_payV hn n3, by rw [aof_filter hn n3, s0]; rfl, by rw [aof_filter hn n3, s0]; rfl⟩
  · rw [(set3 hn p1 (by omega)).1, if_neg (by simp), if_neg (by unfold beyB; simp; omega)]
  · have := (set3 (G := []) hn p1 (by omega)).2
    rw [p1] at this ⊢
    dsimp only at this
    rw [this, aof_set]
    simp
  · rw [(ref_is hn p2 ha).1, if_neg (by omega), if_neg (by simp), if_neg (by unfold beyB; simp; omega)]
  · have := (ref_is (G := []) hn p2 ha).2
    rw [this, aof_set]
    simp
end Go.Proofs.YtffhkljegopjmaaDoor.Lg

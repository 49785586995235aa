/- contracts: the document's Add, Sub, Mul -/
import Derived.Test.YtjhlilamnbbkbaaDoorM9
namespace Go.Proofs.YtjhlilamnbbkbaaDoor
open Go.RowKit Go.Shelf Go.Sort Go.Lib
set_option maxHeartbeats 400000 in
/-- ladingref01.Add -/
theorem refAdd_any (a b : Int) (w : World) (ha : In64 a) (hb : In64 b) :
    Calls Tryd.prog 13 #[.int .i64 a, .int .i64 b] w fun e w' => e = .returned (.tuple #[.int .i64 (num (a + b)), .int .i64 (err (a + b))]) ∧ w' = w := by
  unfold In64 at ha hb
  by_cases h : In64 (a + b)
  · rw [num_in h, err_in h]
    unfold In64 at h
    rcases Int.lt_trichotomy b 0 with hb0 | rfl | hb0
    · have h0 : ¬ 0 < b := by omega
      have h1 : ¬ a < -9223372036854775808 - b := by omega
      go_enter Tryd.func13, Tryd.ntmps13
      go_wp2
      go_ret2
      exact ⟨rfl, rfl⟩
    · go_enter Tryd.func13, Tryd.ntmps13
      go_wp2
      go_ret2
      exact ⟨ret_two (by omega) rfl, rfl⟩
    · have h1 : ¬ 9223372036854775807 - b < a := by omega
      have h0 : ¬ b < 0 := by omega
      go_enter Tryd.func13, Tryd.ntmps13
      go_wp2
      go_ret2
      exact ⟨rfl, rfl⟩
  · rw [num_out h, err_out h]
    unfold In64 at h
    by_cases hb0 : 0 < b
    · have h1 : 9223372036854775807 - b < a := by omega
      go_enter Tryd.func13, Tryd.ntmps13
      go_wp2
      go_ret2
      exact ⟨rfl, rfl⟩
    · have h2 : b < 0 := by omega
      have h1 : a < -9223372036854775808 - b := by omega
      go_enter Tryd.func13, Tryd.ntmps13
      go_wp2
      go_ret2
      exact ⟨rfl, rfl⟩
set_option maxHeartbeats 400000 in
/-- ladingref01.Sub -/
theorem refSub_any (a b : Int) (w : World) (ha : In64 a) (hb : In64 b) :
    Calls Tryd.prog 15 #[.int .i64 a, .int .i64 b] w fun e w' => e = .returned (.tuple #[.int .i64 (num (a - b)), .int .i64 (err (a - b))]) ∧ w' = w := by
  unfold In64 at ha hb
  by_cases h : In64 (a - b)
  · rw [num_in h, err_in h]
    unfold In64 at h
    rcases Int.lt_trichotomy b 0 with hb0 | rfl | hb0
    · have h0 : ¬ 0 < b := by omega
      have h1 : ¬ 9223372036854775807 + b < a := by omega
      go_enter Tryd.func15, Tryd.ntmps15
      go_wp2
      go_ret2
      exact ⟨rfl, rfl⟩
    · go_enter Tryd.func15, Tryd.ntmps15
      go_wp2
      go_ret2
      exact ⟨ret_two (by omega) rfl, rfl⟩
    · have h1 : ¬ a < -9223372036854775808 + b := by omega
      have h0 : ¬ b < 0 := by omega
      go_enter Tryd.func15, Tryd.ntmps15
      go_wp2
      go_ret2
      exact ⟨rfl, rfl⟩
  · rw [num_out h, err_out h]
    unfold In64 at h
    by_cases hb0 : b < 0
    · have h1 : 9223372036854775807 + b < a := by omega
      go_enter Tryd.func15, Tryd.ntmps15
      go_wp2
      go_ret2
      exact ⟨rfl, rfl⟩
    · have h2 : 0 < b := by omega
      have h1 : a < -9223372036854775808 + b := by omega
      go_enter Tryd.func15, Tryd.ntmps15
      go_wp2
      go_ret2
      exact ⟨rfl, rfl⟩
/-- a product that is too great is told by the division -/
theorem mul_over (a b : Int) (ha : -9223372036854775808 ≤ a ∧ a ≤ 9223372036854775807) (hb : -9223372036854775808 ≤ b ∧ b ≤ 9223372036854775807) (b0 : b ≠ 0) (m1 : ¬ (a = -9223372036854775808 ∧ b = -1)) (h : ¬ In64 (a * b)) : (wrap64 ((wrap64 (a * b)).tdiv b) != a) = true := by
  unfold In64 at h
  obtain ⟨N, hN⟩ : ∃ N, wrap64 (a * b) = N := ⟨_, rfl⟩
  obtain ⟨P, hP⟩ : ∃ P, a * b = P := ⟨_, rfl⟩
  rw [hN]
  rw [hP] at hN h
  have h1 : -9223372036854775808 ≤ N ∧ N ≤ 9223372036854775807 ∧ (N - P ≤ -18446744073709551616 ∨ 18446744073709551616 ≤ N - P) := by
    unfold wrap64 at hN; omega
  have hbm : b ≠ -1 := by
    intro hb1
    subst hb1
    rw [Int.mul_neg_one] at hP
    omega
  have hd := Int.mul_tdiv_add_tmod N b
  have hr1 : -(b.natAbs : Int) < N.tmod b ∧ N.tmod b < (b.natAbs : Int) := by
    have hlt : (N.tmod b).natAbs < b.natAbs := by rw [Int.natAbs_tmod]; exact Nat.mod_lt _ (by omega)
    omega
  have hq : wrap64 (N.tdiv b) = N.tdiv b := by
    have hle := Int.natAbs_tdiv_le_natAbs N b
    have : N.tdiv b ≠ 9223372036854775808 := by
      intro he
      rw [he] at hd
      omega
    unfold wrap64
    omega
  rw [hq]
  simp only [bne_iff_ne, ne_eq]
  intro he
  rw [he, Int.mul_comm, hP] at hd
  omega
set_option maxHeartbeats 400000 in
/-- ladingref01.Mul -/
theorem refMul_any (a b : Int) (w : World) (ha : In64 a) (hb : In64 b) :
    Calls Tryd.prog 17 #[.int .i64 a, .int .i64 b] w fun e w' => e = .returned (.tuple #[.int .i64 (num (a * b)), .int .i64 (err (a * b))]) ∧ w' = w := by
  unfold In64 at ha hb
  by_cases a0 : a = 0
  · subst a0
    rw [Int.zero_mul]
    go_enter Tryd.func17, Tryd.ntmps17
    go_wp2
    go_ret2
    exact ⟨rfl, rfl⟩
  by_cases b0 : b = 0
  · subst b0
    rw [Int.mul_zero]
    have t : (a == 0) = false := by simpa using a0
    go_enter Tryd.func17, Tryd.ntmps17
    go_wp2
    go_ret2
    exact ⟨rfl, rfl⟩
  have ta : (a == 0) = false := by simpa using a0
  have tb : (b == 0) = false := by simpa using b0
  by_cases m1 : a = -9223372036854775808 ∧ b = -1
  · obtain ⟨rfl, rfl⟩ := m1
    go_enter Tryd.func17, Tryd.ntmps17
    go_wp2
    go_ret2
    exact ⟨rfl, rfl⟩
  by_cases m2 : b = -9223372036854775808 ∧ a = -1
  · obtain ⟨rfl, rfl⟩ := m2
    go_enter Tryd.func17, Tryd.ntmps17
    go_wp2
    go_ret2
    exact ⟨rfl, rfl⟩
  obtain ⟨N, z, hN, hz, hR⟩ : ∃ N z, wrap64 (a * b) = N ∧ (wrap64 (N.tdiv b) != a) = z ∧ Hid (z = false ∧ N = num (a * b) ∧ err (a * b) = 0 ∨ z = true ∧ num (a * b) = 0 ∧ err (a * b) = 5) := by
    refine ⟨_, _, rfl, rfl, hide ?_⟩
    by_cases h : In64 (a * b)
    · have e : wrap64 (a * b) = a * b := by unfold In64 at h; unfold wrap64; omega
      rw [e, num_in h, err_in h, Int.mul_tdiv_cancel _ b0]
      have e2 : wrap64 a = a := by unfold wrap64; omega
      rw [e2]
      exact .inl ⟨by simp, rfl, rfl⟩
    · rw [num_out h, err_out h]
      refine .inr ⟨?_, rfl, rfl⟩
      exact mul_over a b ha hb b0 m1 h
  obtain ⟨p1, hp1⟩ : ∃ p1, (a == -9223372036854775808) = p1 := ⟨_, rfl⟩
  obtain ⟨p2, hp2⟩ : ∃ p2, (b == -1) = p2 := ⟨_, rfl⟩
  obtain ⟨p3, hp3⟩ : ∃ p3, (b == -9223372036854775808) = p3 := ⟨_, rfl⟩
  obtain ⟨p4, hp4⟩ : ∃ p4, (a == -1) = p4 := ⟨_, rfl⟩
  have C1 : Hid (p1 = true → p2 = true → False) := hide (by
    intro h1 h2; subst h1; subst h2; exact m1 ⟨by simpa using hp1, by simpa using hp2⟩)
  have C2 : Hid (p3 = true → p4 = true → False) := hide (by
    intro h1 h2; subst h1; subst h2; exact m2 ⟨by simpa using hp3, by simpa using hp4⟩)
  clear m1 m2 a0
  generalize num (a * b) = y1 at *
  generalize err (a * b) = y2 at *
  rcases hR.out with ⟨rfl, rfl, rfl⟩ | ⟨rfl, rfl, rfl⟩
  · have D : Hid (∀ r : Prop, p1 = true → p2 = true → r) := hide (fun _ h1 h2 => (C1.out h1 h2).elim)
    have D2 : Hid (∀ r : Prop, p3 = true → p4 = true → r) := hide (fun _ h1 h2 => (C2.out h1 h2).elim)
    go_enter Tryd.func17, Tryd.ntmps17
    go_wp2
    all_goals first | exact D.out _ (by assumption) (by assumption) | exact D2.out _ (by assumption) (by assumption) | skip
    all_goals go_ret2
    all_goals exact ⟨rfl, rfl⟩
  · have D : Hid (∀ r : Prop, p1 = true → p2 = true → r) := hide (fun _ h1 h2 => (C1.out h1 h2).elim)
    have D2 : Hid (∀ r : Prop, p3 = true → p4 = true → r) := hide (fun _ h1 h2 => (C2.out h1 h2).elim)
    go_enter Tryd.func17, Tryd.ntmps17
    go_wp2
    all_goals first | exact D.out _ (by assumption) (by assumption) | exact D2.out _ (by assumption) (by assumption) | skip
    all_goals go_ret2
    all_goals exact ⟨rfl, rfl⟩
end Go.Proofs.YtjhlilamnbbkbaaDoor

/- the ledger's small functions -/
import Derived.Test.YtffhkljegopjmaaDoorGA
namespace Go.Proofs.YtffhkljegopjmaaDoor.Lg
open Go.RowKit
set_option maxRecDepth 40000
def ordB (n : Int) : Bool := decide (1 ≤ n ∧ n ≤ 1024)
def amtB (n : Int) : Bool := decide (1 ≤ n ∧ n ≤ 1152921504606846976)
def accB (n : Int) : Bool := decide (0 < n ∧ n < 4)
theorem order_any (n : Int) (w : World) : Calls Tryd.prog 44 #[.int .i64 n] w fun e w' => e = .returned (.bool (ordB n)) ∧ w' = w := by
  have HT : Hid (ordB n = decide (1 ≤ n ∧ n ≤ 1024)) := hide rfl
  generalize ordB n = b at *
  go_enter Tryd.func44, Tryd.ntmps44
  go_wp2
  all_goals go_ret
  all_goals exact ⟨ret_bool (by rw [HT.out, Bool.eq_iff_iff]; simp; omega), rfl⟩
theorem amount_any (n : Int) (w : World) : Calls Tryd.prog 28 #[.int .i64 n] w fun e w' => e = .returned (.bool (amtB n)) ∧ w' = w := by
  have HT : Hid (amtB n = decide (1 ≤ n ∧ n ≤ 1152921504606846976)) := hide rfl
  generalize amtB n = b at *
  go_enter Tryd.func28, Tryd.ntmps28
  go_wp2
  all_goals go_ret
  all_goals exact ⟨ret_bool (by rw [HT.out, Bool.eq_iff_iff]; simp; omega), rfl⟩
theorem account_any (n : Int) (w : World) : Calls Tryd.prog 36 #[.int .u8 n] w fun e w' => e = .returned (.bool (accB n)) ∧ w' = w := by
  have HT : Hid (accB n = decide (0 < n ∧ n < 4)) := hide rfl
  generalize accB n = b at *
  go_enter Tryd.func36, Tryd.ntmps36
  go_wp2
  all_goals go_ret
  all_goals exact ⟨ret_bool (by rw [HT.out, Bool.eq_iff_iff]; simp; omega), rfl⟩
def postB (x : Pg) : Bool := ordB x.o && (amtB x.am && (accB x.fr && (accB x.to && decide (x.fr ≠ x.to))))
set_option maxHeartbeats 1000000 in
theorem posting_any (x : Pg) (w : World) : Calls Tryd.prog 59 #[vg x] w fun e w' => e = .returned (.bool (postB x)) ∧ Below w.heap.size w w' := by
  have HT : Hid (postB x = (ordB x.o && (amtB x.am && (accB x.fr && (accB x.to && decide (x.fr ≠ x.to)))))) := hide rfl
  generalize postB x = r at *
  obtain ⟨x1, x2, x3, x4⟩ := x
  dsimp only at HT
  have C1 := hide (fun W => order_any x1 W)
  have C2 := hide (fun W => amount_any x4 W)
  have C3 := hide (fun W => account_any x2 W)
  have C4 := hide (fun W => account_any x3 W)
  have HB := hide ((Below.refl _ w).alloc (Nat.le_refl _) (.cells #[.int .i64 x1, .int .u8 x2, .int .u8 x3, .int .i64 x4] 92))
  generalize hA : accB x2 = a2 at *
  generalize hC : accB x3 = a3 at *
  have HA := hide hA
  have HC := hide hC
  clear hA hC
  generalize ordB x1 = a1 at *
  generalize amtB x4 = a4 at *
  by_cases hne : x2 = x3
  · subst hne
    have ha : a3 = a2 := HC.out.symm.trans HA.out
    subst ha
    cases a1
    · go_enter Tryd.func59, Tryd.ntmps59
      go_wp2_with (first | (go_at_call 44; refine (C1.out _).mono ?_; rintro e w' ⟨rfl, rfl⟩) | (go_at_call 28; refine (C2.out _).mono ?_; rintro e w' ⟨rfl, rfl⟩) | (go_at_call 36; refine (C3.out _).mono ?_; rintro e w' ⟨rfl, rfl⟩))
      go_ret
      exact ⟨ret_bool (by rw [HT.out]; rfl), HB.out⟩
    cases a4
    · go_enter Tryd.func59, Tryd.ntmps59
      go_wp2_with (first | (go_at_call 44; refine (C1.out _).mono ?_; rintro e w' ⟨rfl, rfl⟩) | (go_at_call 28; refine (C2.out _).mono ?_; rintro e w' ⟨rfl, rfl⟩) | (go_at_call 36; refine (C3.out _).mono ?_; rintro e w' ⟨rfl, rfl⟩))
      go_ret
      exact ⟨ret_bool (by rw [HT.out]; rfl), HB.out⟩
    cases a3
    · go_enter Tryd.func59, Tryd.ntmps59
      go_wp2_with (first | (go_at_call 44; refine (C1.out _).mono ?_; rintro e w' ⟨rfl, rfl⟩) | (go_at_call 28; refine (C2.out _).mono ?_; rintro e w' ⟨rfl, rfl⟩) | (go_at_call 36; refine (C3.out _).mono ?_; rintro e w' ⟨rfl, rfl⟩))
      go_ret
      exact ⟨ret_bool (by rw [HT.out]; rfl), HB.out⟩
    · go_enter Tryd.func59, Tryd.ntmps59
      go_wp2_with (first | (go_at_call 44; refine (C1.out _).mono ?_; rintro e w' ⟨rfl, rfl⟩) | (go_at_call 28; refine (C2.out _).mono ?_; rintro e w' ⟨rfl, rfl⟩) | (go_at_call 36; refine (C3.out _).mono ?_; rintro e w' ⟨rfl, rfl⟩))
      go_ret
      exact ⟨ret_bool (by rw [HT.out]; simp), HB.out⟩
  · have HD : Hid (decide (x2 ≠ x3) = true) := hide (decide_eq_true hne)
    cases a1
    · go_enter Tryd.func59, Tryd.ntmps59
      go_wp2_with (first | (go_at_call 44; refine (C1.out _).mono ?_; rintro e w' ⟨rfl, rfl⟩))
      go_ret
      exact ⟨ret_bool (by rw [HT.out]; rfl), HB.out⟩
    cases a4
    · go_enter Tryd.func59, Tryd.ntmps59
      go_wp2_with (first | (go_at_call 44; refine (C1.out _).mono ?_; rintro e w' ⟨rfl, rfl⟩) | (go_at_call 28; refine (C2.out _).mono ?_; rintro e w' ⟨rfl, rfl⟩))
      go_ret
      exact ⟨ret_bool (by rw [HT.out]; rfl), HB.out⟩
    cases a2
    · go_enter Tryd.func59, Tryd.ntmps59
      go_wp2_with (first | (go_at_call 44; refine (C1.out _).mono ?_; rintro e w' ⟨rfl, rfl⟩) | (go_at_call 28; refine (C2.out _).mono ?_; rintro e w' ⟨rfl, rfl⟩) | (go_at_call_of 36 (Value.int IntKind.u8 x2); refine (C3.out _).mono ?_; rintro e w' ⟨rfl, rfl⟩))
      go_ret
      exact ⟨ret_bool (by rw [HT.out]; rfl), HB.out⟩
    cases a3
    · go_enter Tryd.func59, Tryd.ntmps59
      go_wp2_with (first | (go_at_call 44; refine (C1.out _).mono ?_; rintro e w' ⟨rfl, rfl⟩) | (go_at_call 28; refine (C2.out _).mono ?_; rintro e w' ⟨rfl, rfl⟩) | (go_at_call_of 36 (Value.int IntKind.u8 x2); refine (C3.out _).mono ?_; rintro e w' ⟨rfl, rfl⟩) | (go_at_call_of 36 (Value.int IntKind.u8 x3); refine (C4.out _).mono ?_; rintro e w' ⟨rfl, rfl⟩))
      go_ret
      exact ⟨ret_bool (by rw [HT.out]; rfl), HB.out⟩
    · go_enter Tryd.func59, Tryd.ntmps59
      go_wp2_with (first | (go_at_call 44; refine (C1.out _).mono ?_; rintro e w' ⟨rfl, rfl⟩) | (go_at_call 28; refine (C2.out _).mono ?_; rintro e w' ⟨rfl, rfl⟩) | (go_at_call_of 36 (Value.int IntKind.u8 x2); refine (C3.out _).mono ?_; rintro e w' ⟨rfl, rfl⟩) | (go_at_call_of 36 (Value.int IntKind.u8 x3); refine (C4.out _).mono ?_; rintro e w' ⟨rfl, rfl⟩))
      go_ret
      exact ⟨ret_bool (by rw [HT.out, HD.out]; simp [hne]), HB.out⟩
def noneB (x : Py) : Bool := decide (x.op = 0 ∧ x.ca = 0 ∧ x.re = 0)
theorem nothing_any (x : Py) (w : World) : Calls Tryd.prog 34 #[vp x] w fun e w' => e = .returned (.bool (noneB x)) ∧ Below w.heap.size w w' := by
  have HT : Hid (noneB x = decide (x.op = 0 ∧ x.ca = 0 ∧ x.re = 0)) := hide rfl
  generalize noneB x = r at *
  obtain ⟨x1, x2, x3, x4⟩ := x
  dsimp only at HT
  have HB := hide ((Below.refl _ w).alloc (Nat.le_refl _) (.cells #[.int .i64 x1, .int .i64 x2, .int .i64 x3, .int .i64 x4] 47))
  by_cases h2 : x2 = 0
  · subst h2
    by_cases h3 : x3 = 0
    · subst h3
      by_cases h4 : x4 = 0
      · subst h4
        go_enter Tryd.func34, Tryd.ntmps34
        go_wp2
        go_ret
        exact ⟨ret_bool (by rw [HT.out]; simp), HB.out⟩
      · go_enter Tryd.func34, Tryd.ntmps34
        go_wp2
        go_ret
        exact ⟨ret_bool (by rw [HT.out]; simp [h4]), HB.out⟩
    · go_enter Tryd.func34, Tryd.ntmps34
      go_wp2
      go_ret
      exact ⟨ret_bool (by rw [HT.out]; simp [h3]), HB.out⟩
  · go_enter Tryd.func34, Tryd.ntmps34
    go_wp2
    go_ret
    exact ⟨ret_bool (by rw [HT.out]; simp [h2]), HB.out⟩
def owesB (x : Py) : Bool := decide (x.op < 0 ∨ x.ca < x.re)
theorem owes_any (x : Py) (w : World) : Calls Tryd.prog 62 #[vp x] w fun e w' => e = .returned (.bool (owesB x)) ∧ Below w.heap.size w w' := by
  have HT : Hid (owesB x = decide (x.op < 0 ∨ x.ca < x.re)) := hide rfl
  generalize owesB x = r at *
  obtain ⟨x1, x2, x3, x4⟩ := x
  dsimp only at HT
  have HB := hide ((Below.refl _ w).alloc (Nat.le_refl _) (.cells #[.int .i64 x1, .int .i64 x2, .int .i64 x3, .int .i64 x4] 47))
  by_cases h2 : x2 < 0
  · go_enter Tryd.func62, Tryd.ntmps62
    go_wp2
    go_ret
    exact ⟨ret_bool (by rw [HT.out]; simp [h2]), HB.out⟩
  · by_cases h3 : x3 < x4
    · go_enter Tryd.func62, Tryd.ntmps62
      go_wp2
      go_ret
      exact ⟨ret_bool (by rw [HT.out]; simp [h3]), HB.out⟩
    · have HN := hide (And.intro h2 h3)
      go_enter Tryd.func62, Tryd.ntmps62
      go_wp2
      go_ret
      exact ⟨ret_bool (by rw [HT.out, Bool.eq_iff_iff]; have := HN.out; simp; omega), HB.out⟩
end Go.Proofs.YtffhkljegopjmaaDoor.Lg

/- the small functions: states, moves, verdicts, orders, what a move makes -/
import Derived.Test.YtfbfmhfceemkgaaDoorSA
namespace Go.Proofs.YtfbfmhfceemkgaaDoor
open Go.RowKit
theorem ret_int {x y : Int} (h : x = y) : Ending.returned (.int .i64 x) = .returned (.int .i64 y) := by rw [h]
theorem ret_bool {x y : Bool} (h : x = y) : Ending.returned (.bool x) = .returned (.bool y) := by rw [h]
def cmpI (a b : Int) : Int := if a < b then -1 else if b < a then 1 else 0
theorem nan_any (a : Int) (w : World) : Calls Tryd.prog 39 #[.int .i64 a] w fun e w' => e = .returned (.bool false) ∧ w' = w := by
  go_enter Tryd.func39, Tryd.ntmps39
  go_wp2
  go_ret
  exact ⟨rfl, rfl⟩
theorem cmp_any (a b : Int) (w : World) : Calls Tryd.prog 33 #[.int .i64 a, .int .i64 b] w fun e w' => e = .returned (.int .i64 (cmpI a b)) ∧ w' = w := by
  have HT : Hid (cmpI a b = if a < b then -1 else if b < a then 1 else 0) := hide rfl
  generalize cmpI a b = r at *
  have h1 := fun W => nan_any a W
  have h2 := fun W => nan_any b W
  rcases Int.lt_trichotomy a b with h | h | h
  · go_enter Tryd.func33, Tryd.ntmps33
    go_wp2_with (first | (go_at_call 39; refine (nan_any _ _).mono ?_; rintro e w' ⟨rfl, rfl⟩))
    all_goals go_ret
    all_goals exact ⟨ret_int (by rw [HT.out, if_pos h]), rfl⟩
  · subst h
    go_enter Tryd.func33, Tryd.ntmps33
    go_wp2_with (first | (go_at_call 39; refine (nan_any _ _).mono ?_; rintro e w' ⟨rfl, rfl⟩))
    all_goals go_ret
    all_goals exact ⟨ret_int (by rw [HT.out]; simp), rfl⟩
  · go_enter Tryd.func33, Tryd.ntmps33
    go_wp2_with (first | (go_at_call 39; refine (nan_any _ _).mono ?_; rintro e w' ⟨rfl, rfl⟩))
    all_goals go_ret
    all_goals exact ⟨ret_int (by rw [HT.out, if_neg (by omega), if_pos h]), rfl⟩
def stB (s : Int) : Bool := decide (s < 7)
def mvB (m : Int) : Bool := decide (0 < m ∧ m < 7)
def veB (v : Int) : Bool := decide (v < 2)
def orB (n : Int) : Bool := decide (1 ≤ n ∧ n ≤ 1024)
def asB (m : Int) : Bool := decide (m = 1 ∨ m = 2 ∨ m = 5)
def enB (s : Int) : Bool := decide (s = 4 ∨ s = 6)
theorem st_any (s : Int) (w : World) : Calls Tryd.prog 26 #[.int .u8 s] w fun e w' => e = .returned (.bool (stB s)) ∧ w' = w := by
  have HT : Hid (stB s = decide (s < 7)) := hide rfl
  generalize stB s = b at *
  go_enter Tryd.func26, Tryd.ntmps26
  go_wp2
  all_goals go_ret
  all_goals exact ⟨ret_bool (by rw [HT.out]), rfl⟩
theorem mv_any (m : Int) (w : World) : Calls Tryd.prog 29 #[.int .u8 m] w fun e w' => e = .returned (.bool (mvB m)) ∧ w' = w := by
  have HT : Hid (mvB m = decide (0 < m ∧ m < 7)) := hide rfl
  generalize mvB m = b at *
  go_enter Tryd.func29, Tryd.ntmps29
  go_wp2
  all_goals go_ret
  all_goals exact ⟨ret_bool (by rw [HT.out, Bool.eq_iff_iff]; simp; omega), rfl⟩
theorem ve_any (v : Int) (w : World) : Calls Tryd.prog 19 #[.int .u8 v] w fun e w' => e = .returned (.bool (veB v)) ∧ w' = w := by
  have HT : Hid (veB v = decide (v < 2)) := hide rfl
  generalize veB v = b at *
  go_enter Tryd.func19, Tryd.ntmps19
  go_wp2
  all_goals go_ret
  all_goals exact ⟨ret_bool (by rw [HT.out]), rfl⟩
theorem or_any (n : Int) (w : World) : Calls Tryd.prog 17 #[.int .i64 n] w fun e w' => e = .returned (.bool (orB n)) ∧ w' = w := by
  have HT : Hid (orB n = decide (1 ≤ n ∧ n ≤ 1024)) := hide rfl
  generalize orB n = b at *
  go_enter Tryd.func17, Tryd.ntmps17
  go_wp2
  all_goals go_ret
  all_goals exact ⟨ret_bool (by rw [HT.out, Bool.eq_iff_iff]; simp; omega), rfl⟩
theorem as_any (m : Int) (w : World) : Calls Tryd.prog 10 #[.int .u8 m] w fun e w' => e = .returned (.bool (asB m)) ∧ w' = w := by
  have HT : Hid (asB m = decide (m = 1 ∨ m = 2 ∨ m = 5)) := hide rfl
  generalize asB m = b at *
  by_cases h1 : m = 1
  · subst h1
    go_enter Tryd.func10, Tryd.ntmps10
    go_wp2
    go_ret
    exact ⟨ret_bool (by rw [HT.out]; decide), rfl⟩
  · by_cases h2 : m = 2
    · subst h2
      go_enter Tryd.func10, Tryd.ntmps10
      go_wp2
      go_ret
      exact ⟨ret_bool (by rw [HT.out]; decide), rfl⟩
    · by_cases h3 : m = 5
      · subst h3
        go_enter Tryd.func10, Tryd.ntmps10
        go_wp2
        go_ret
        exact ⟨ret_bool (by rw [HT.out]; decide), rfl⟩
      · go_enter Tryd.func10, Tryd.ntmps10
        go_wp2
        go_ret
        exact ⟨ret_bool (by rw [HT.out]; simp [h1, h2, h3]), rfl⟩
end Go.Proofs.YtfbfmhfceemkgaaDoor

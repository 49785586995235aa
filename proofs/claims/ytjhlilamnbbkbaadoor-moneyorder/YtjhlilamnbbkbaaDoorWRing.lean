/- the walk of MoneyRing -/
import Derived.Test.YtjhlilamnbbkbaaDoorM9
namespace Go.Proofs.YtjhlilamnbbkbaaDoor
open Go.RowKit Go.Shelf Go.Sort Go.Lib
theorem num_ok (n : Int) : In64 (num n) := by
  by_cases h : In64 n
  · rw [num_in h]; exact h
  · rw [num_out h]; exact ⟨by decide, by decide⟩
/-- both numbers of a checked sum, at once -/
theorem both (n : Int) : In64 n ∧ num n = n ∧ err n = 0 ∨ ¬ In64 n ∧ num n = 0 ∧ err n = 5 := by
  by_cases h : In64 n
  · exact .inl ⟨h, num_in h, err_in h⟩
  · exact .inr ⟨h, num_out h, err_out h⟩
set_option maxHeartbeats 1000000 in
/-- ladinglaw01.MoneyRing -/
theorem ring_any (a b c : Int) (w : World) (htab : POW w) (ha : In64 a) (hb : In64 b) (hc : In64 c) :
    Calls Tryd.prog 7 #[.int .i64 a, .int .i64 b, .int .i64 c] w fun e w' => e = .returned (.bool true) ∧ Below w.heap.size w w' := by
  have HT := hide htab
  clear htab
  have A1 := hide (fun W => add_any a b W ha hb)
  have A2 := hide (fun W => add_any b a W hb ha)
  have M1 := hide (fun W => mul_any a b W ha hb)
  have M2 := hide (fun W => mul_any b a W hb ha)
  have S1 := hide (fun W => sub_any (num (a + b)) b W (num_ok _) hb)
  have M3 := hide (fun W => mul_any (num (a + b)) c W (num_ok _) hc)
  have M4 := hide (fun W => mul_any a c W ha hc)
  have M5 := hide (fun W => mul_any b c W hb hc)
  have A3 := hide (fun W => add_any (num (a * c)) (num (b * c)) W (num_ok _) (num_ok _))
  rw [Int.add_comm b a] at A2
  rw [Int.mul_comm b a] at M2
  have F1 := hide (both (a + b))
  have F2 : Hid (err (a + b) = 0 → num (num (a + b) - b) = a ∧ err (num (a + b) - b) = 0) := hide (by
    intro h
    rcases both (a + b) with ⟨h1, h2, h3⟩ | ⟨h1, h2, h3⟩
    · rw [h2, Int.add_sub_cancel, num_in ha, err_in ha]; exact ⟨rfl, rfl⟩
    · omega)
  have F3 := hide (both (num (a + b) * c))
  have F4 := hide (both (a * c))
  have F5 := hide (both (b * c))
  have F6 : Hid (err (a + b) = 0 → err (num (a + b) * c) = 0 → err (a * c) = 0 → err (b * c) = 0 → err (num (a * c) + num (b * c)) = 0 ∧ num (num (a + b) * c) = num (num (a * c) + num (b * c))) := hide (by
    intro h h3 h4 h5
    rcases both (a + b) with ⟨q1, q2, q3⟩ | ⟨q1, q2, q3⟩
    · rcases both (a * c) with ⟨u1, u2, u3⟩ | ⟨u1, u2, u3⟩
      · rcases both (b * c) with ⟨v1, v2, v3⟩ | ⟨v1, v2, v3⟩
        · rw [q2] at h3 ⊢
          rw [u2, v2, ← Int.add_mul]
          exact ⟨h3, rfl⟩
        · omega
      · omega
    · omega)
  generalize num (num (a + b) - b) = y1 at *
  generalize err (num (a + b) - b) = y2 at *
  generalize num (num (a + b) * c) = y3 at *
  generalize err (num (a + b) * c) = y4 at *
  generalize num (num (a * c) + num (b * c)) = y5 at *
  generalize err (num (a * c) + num (b * c)) = y6 at *
  generalize num (a * c) = y7 at *
  generalize err (a * c) = y8 at *
  generalize num (b * c) = y9 at *
  generalize err (b * c) = y10 at *
  generalize num (a + b) = y11 at *
  generalize err (a + b) = y12 at *
  generalize num (a * b) = y13 at *
  generalize err (a * b) = y14 at *
  have t11 : (y11 != y11) = false := by simp
  have t12 : (y12 != y12) = false := by simp
  have t13 : (y13 != y13) = false := by simp
  have t14 : (y14 != y14) = false := by simp
  go_enter Tryd.func7, Tryd.ntmps7
  go_wp2_with fail
  refine (lives_any _ HT.out).mono ?_
  rintro e w1 ⟨rfl, h1⟩
  go_wp2_with fail
  refine (A1.out _).mono ?_
  rintro e w2 ⟨rfl, h2⟩
  replace h1 := h1.trans (h2.mono h1.size)
  clear h2
  go_wp2_with fail
  refine (A2.out _).mono ?_
  rintro e w3 ⟨rfl, h2⟩
  replace h1 := h1.trans (h2.mono h1.size)
  clear h2
  go_wp2_with fail
  refine (M1.out _).mono ?_
  rintro e w' ⟨rfl, rfl⟩
  go_wp2_with fail
  refine (M2.out _).mono ?_
  rintro e w' ⟨rfl, rfl⟩
  rcases F1.out with ⟨-, -, rfl⟩ | ⟨-, -, rfl⟩
  · obtain ⟨rfl, rfl⟩ := F2.out rfl
    have ta : (y1 != y1) = false := by simp
    go_wp2_with fail
    refine (S1.out _).mono ?_
    rintro e w4 ⟨rfl, h2⟩
    replace h1 := h1.trans (h2.mono h1.size)
    clear h2
    go_wp2_with fail
    refine (M3.out _).mono ?_
    rintro e w' ⟨rfl, rfl⟩
    go_wp2_with fail
    refine (M4.out _).mono ?_
    rintro e w' ⟨rfl, rfl⟩
    go_wp2_with fail
    refine (M5.out _).mono ?_
    rintro e w' ⟨rfl, rfl⟩
    go_wp2_with fail
    refine (A3.out _).mono ?_
    rintro e w5 ⟨rfl, h2⟩
    replace h1 := h1.trans (h2.mono h1.size)
    clear h2
    rcases F3.out with ⟨-, -, rfl⟩ | ⟨-, -, rfl⟩
    · rcases F4.out with ⟨-, -, rfl⟩ | ⟨-, -, rfl⟩
      · rcases F5.out with ⟨-, -, rfl⟩ | ⟨-, -, rfl⟩
        · obtain ⟨rfl, rfl⟩ := F6.out (by trivial) (by trivial) (by trivial) (by trivial)
          have tb : (y3 == y3) = true := by simp
          go_wp2
          go_ret
          exact ⟨rfl, h1⟩
        · go_wp2
          go_ret
          exact ⟨rfl, h1⟩
      · go_wp2
        go_ret
        exact ⟨rfl, h1⟩
    · go_wp2
      go_ret
      exact ⟨rfl, h1⟩
  · go_wp2_with fail
    refine (M3.out _).mono ?_
    rintro e w' ⟨rfl, rfl⟩
    go_wp2_with fail
    refine (M4.out _).mono ?_
    rintro e w' ⟨rfl, rfl⟩
    go_wp2_with fail
    refine (M5.out _).mono ?_
    rintro e w' ⟨rfl, rfl⟩
    go_wp2_with fail
    refine (A3.out _).mono ?_
    rintro e w5 ⟨rfl, h2⟩
    replace h1 := h1.trans (h2.mono h1.size)
    clear h2
    go_wp2
    go_ret
    exact ⟨rfl, h1⟩
end Go.Proofs.YtjhlilamnbbkbaaDoor

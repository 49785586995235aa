/- how a pay stands to an order -/
import Derived.Test.YtffhkljegopjmaaDoorGI
namespace Go.Proofs.YtffhkljegopjmaaDoor.Lg
open Go.RowKit
set_option maxRecDepth 40000
def cmpI (a b : Int) : Int := if a < b then -1 else if b < a then 1 else 0
theorem nan_any (a : Int) (w : World) : Calls Tryd.prog 55 #[.int .i64 a] w fun e w' => e = .returned (.bool false) ∧ w' = w := by
  go_enter Tryd.func55, Tryd.ntmps55
  go_wp2
  go_ret
  exact ⟨rfl, rfl⟩
theorem cmp_any (a b : Int) (w : World) : Calls Tryd.prog 41 #[.int .i64 a, .int .i64 b] w fun e w' => e = .returned (.int .i64 (cmpI a b)) ∧ w' = w := by
  have HT : Hid (cmpI a b = if a < b then -1 else if b < a then 1 else 0) := hide rfl
  generalize cmpI a b = r at *
  have h1 := fun W => nan_any a W
  have h2 := fun W => nan_any b W
  rcases Int.lt_trichotomy a b with h | h | h
  · go_enter Tryd.func41, Tryd.ntmps41
    go_wp2_with (first | (go_at_call 55; refine (nan_any _ _).mono ?_; rintro e w' ⟨rfl, rfl⟩))
    all_goals go_ret
    all_goals exact ⟨ret_int (by rw [HT.out, if_pos h]), rfl⟩
  · subst h
    go_enter Tryd.func41, Tryd.ntmps41
    go_wp2_with (first | (go_at_call 55; refine (nan_any _ _).mono ?_; rintro e w' ⟨rfl, rfl⟩))
    all_goals go_ret
    all_goals exact ⟨ret_int (by rw [HT.out]; simp), rfl⟩
  · go_enter Tryd.func41, Tryd.ntmps41
    go_wp2_with (first | (go_at_call 55; refine (nan_any _ _).mono ?_; rintro e w' ⟨rfl, rfl⟩))
    all_goals go_ret
    all_goals exact ⟨ret_int (by rw [HT.out, if_neg (by omega), if_pos h]), rfl⟩
/-- how a pay stands to an order -/
theorem ordp_any (x : Py) (n : Int) (w : World) : Calls Tryd.prog 46 #[vp x, .int .i64 n] w fun e w' => e = .returned (.int .i64 (cmpI x.o n)) ∧ Below w.heap.size w w' := by
  obtain ⟨x1, x2, x3, x4⟩ := x
  have CM := hide (fun W => cmp_any x1 n W)
  have HB : Hid (Below w.heap.size w (w.alloc (.cells #[.int .i64 x1, .int .i64 x2, .int .i64 x3, .int .i64 x4] 47))) := hide ((Below.refl _ w).alloc (Nat.le_refl _) _)
  generalize cmpI x1 n = c1 at *
  go_enter Tryd.func46, Tryd.ntmps46
  go_wp2_with (first | (go_at_call 41; refine (CM.out _).mono ?_; rintro e w' ⟨rfl, rfl⟩))
  go_ret
  exact ⟨rfl, HB.out⟩
theorem hent34 (args : Array Value) (W : World) : (callFunc 46 args).run Tryd.prog W = .ok (.enter 46 args) W := Go.Proofs.enters_of Tryd.func46 (by kernel_rfl) rfl args W
end Go.Proofs.YtffhkljegopjmaaDoor.Lg

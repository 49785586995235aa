/- contracts: part, Share, whatever it is given -/
import Derived.Test.YtjhlilamnbbkbaaDoorD1
import Derived.Test.YtjhlilamnbbkbaaDoorR2
namespace Go.Proofs.YtjhlilamnbbkbaaDoor
open Go.RowKit Go.Shelf Go.Sort Go.Lib
/-- money.part -/
theorem part_any (t x A : Nat) (ht : t < 9223372036854775808) (hx : x ≤ A) (hA : 0 < A) (hA2 : A < 9223372036854775808) (w : World) :
    Calls Tryd.prog 36 #[.int .i64 t, .int .i64 x, .int .i64 A] w fun e w' => e = .returned (.int .i64 (t * x / A : Nat)) ∧ ∃ n, w' = w.drewN n := by
  have hle : t * x ≤ t * A := Nat.mul_le_mul_left _ hx
  have hq : t * x / A ≤ t := Nat.div_le_of_le_mul (by rw [Nat.mul_comm A t]; exact hle)
  have hlt : t * x / 18446744073709551616 < A := by
    rw [Nat.div_lt_iff_lt_mul (by decide)]
    refine Nat.lt_of_le_of_lt hle ?_
    rw [Nat.mul_comm]
    exact (Nat.mul_lt_mul_left hA).2 (by omega)
  have M := hide (fun W => Tryd.bits_Mul64 t x (by omega) (by omega) W)
  have D := hide (fun W => div64_any (t * x / 18446744073709551616) (t * x % 18446744073709551616) A (by omega) (by omega) hlt W)
  rw [show t * x / 18446744073709551616 * 18446744073709551616 + t * x % 18446744073709551616 = t * x by omega] at D
  clear hle hlt
  generalize t * x = p at *
  generalize p / 18446744073709551616 = h at *
  generalize p % 18446744073709551616 = lo at *
  generalize hg : p / A = q at *
  generalize p % A = r at *
  clear hg
  go_enter Tryd.func36, Tryd.ntmps36
  go_wp2_with fail
  refine (M.out _).mono ?_
  rintro e w' ⟨rfl, rfl⟩
  go_wp2_with fail
  refine (D.out _).mono ?_
  rintro e w1 ⟨rfl, n, hn⟩
  go_wp2
  go_ret
  exact ⟨rfl, n, rfl⟩
/-- what Share answers beside the shares -/
def shErr (T : Int) (l : List Int) : Int := if 4096 < l.length then 3 else if T < 0 ∨ aw l = false then 2 else err l.sum
theorem nil_err {a b : Int} (h : a = b) : Ending.returned (.tuple #[.slice none 0 0, .int .i64 a]) = .returned (.tuple #[.slice none 0 0, .int .i64 b]) := by rw [h]
/-- money.Share, where there are none -/
theorem share_bad (T : Int) (a : Option Addr) (len cap : Nat) (l : List Int) (w : World) (h : IsI w a len cap l) (hlen : len ≤ 17592186044416) (hbad : shErr T l ≠ 0) :
    Calls Tryd.prog 23 #[.int .i64 T, .slice a len cap] w fun e w' => e = .returned (.tuple #[.slice none 0 0, .int .i64 (shErr T l)]) ∧ w' = w := by
  have hl := h.1
  have SU := hide (sumUp_any a len cap l w h hlen)
  have AW := hide (areWeights_any a len cap l w h hlen)
  by_cases h1 : 4096 < len
  · have E : Hid (shErr T l = 3) := hide (if_pos (by omega))
    have t1 : (4096 : Int) < (len : Int) := by omega
    go_enter Tryd.func23, Tryd.ntmps23
    go_wp2
    go_ret2
    exact ⟨nil_err E.out.symm, rfl⟩
  · have t1 : ¬ (4096 : Int) < (len : Int) := by omega
    have E0 : shErr T l = if T < 0 ∨ aw l = false then 2 else err l.sum := if_neg (by omega)
    by_cases h2 : T < 0
    · have E : Hid (shErr T l = 2) := hide (by rw [E0]; exact if_pos (.inl h2))
      clear E0
      go_enter Tryd.func23, Tryd.ntmps23
      go_wp2
      go_ret2
      exact ⟨nil_err E.out.symm, rfl⟩
    · have d2 : decide (T < 0) = false := by simpa using h2
      cases h3 : aw l
      · have E : Hid (shErr T l = 2) := hide (by rw [E0]; exact if_pos (.inr h3))
        rw [h3] at AW
        clear h3 E0
        go_enter Tryd.func23, Tryd.ntmps23
        go_wp2_with fail
        refine AW.out.mono ?_
        rintro e w' ⟨rfl, rfl⟩
        go_wp2
        go_ret2
        exact ⟨nil_err E.out.symm, rfl⟩
      · rw [h3] at AW
        have E : Hid (shErr T l = 5) := hide (by
          have E1 : shErr T l = err l.sum := by rw [E0]; exact if_neg (by simp [h2, h3])
          rw [E1] at hbad ⊢
          unfold err at hbad ⊢
          split
          · rename_i hh; rw [if_pos hh] at hbad; exact absurd rfl hbad
          · rfl)
        have hout : err l.sum = 5 := by
          have E1 : shErr T l = err l.sum := by rw [E0]; exact if_neg (by simp [h2, h3])
          rw [← E1]; exact E.out
        rw [hout] at SU
        clear hout h3 E0 hbad
        go_enter Tryd.func23, Tryd.ntmps23
        go_wp2_with fail
        refine AW.out.mono ?_
        rintro e w' ⟨rfl, rfl⟩
        go_wp2_with fail
        refine SU.out.mono ?_
        rintro e w' ⟨rfl, rfl⟩
        go_wp2
        go_ret2
        exact ⟨nil_err E.out.symm, rfl⟩
theorem aw_ne {l : List Int} (h : aw l = true) : 0 < l.length := by
  cases l with
  | nil => simp [aw] at h
  | cons x r => simp
theorem shErr_ok {T : Int} {l : List Int} (h : shErr T l = 0) : l.length ≤ 4096 ∧ 0 ≤ T ∧ aw l = true ∧ In64 l.sum := by
  unfold shErr at h
  split at h
  · cases h
  · split at h
    · cases h
    · rename_i h1 h2
      rw [not_or] at h2
      unfold err at h
      split at h
      · rename_i h3
        exact ⟨by omega, by omega, by simpa using h2.2, h3⟩
      · cases h
/-- money.Share, where there are shares -/
theorem share_good (T : Int) (a : Option Addr) (len cap : Nat) (l : List Int) (w : World) (hT : In64 T) (h : IsI w a len cap l) (hok : shErr T l = 0) :
    Calls Tryd.prog 23 #[.int .i64 T, .slice a len cap] w fun e w' => ∃ g, e = .returned (.tuple #[.slice (some ⟨g, 0, none⟩) len len, .int .i64 0]) ∧ RowI w' g len len (share T l) ∧ w.heap.size ≤ g ∧ Below w.heap.size w w' := by
  obtain ⟨h1, h2, h3, h4⟩ := shErr_ok hok
  have hl := h.1
  have hp := aw_ne h3
  obtain ⟨b, off, rfl, _, _⟩ := h.2.2.2.2.resolve_left (by omega)
  obtain ⟨t, rfl⟩ := Int.eq_ofNat_of_zero_le h2
  refine share_ok t b off len cap l w (by have := hT.2; omega) h (by omega) (by omega) h3 h4 ?_
  intro k hk W
  have hx : l.getD k 0 ∈ l := by
    rw [List.getD_eq_getElem?_getD, List.getElem?_eq_getElem (by omega)]
    exact List.getElem_mem _
  have n0 := aw_nonneg h3 _ hx
  have n1 := mem_le_sum l (aw_nonneg h3) _ hx
  have n2 := aw_pos h3
  generalize l.getD k 0 = x at *
  obtain ⟨h5, h6⟩ := h4
  generalize l.sum = A at *
  obtain ⟨x, rfl⟩ := Int.eq_ofNat_of_zero_le n0
  obtain ⟨A, rfl⟩ := Int.eq_ofNat_of_zero_le (Int.le_of_lt n2)
  have := part_any t x A (by have := hT.2; omega) (by omega) (by omega) (by omega) W
  rw [show ((t : Int) * (x : Int)) / (A : Int) = ((t * x / A : Nat) : Int) by simp]
  exact this
end Go.Proofs.YtjhlilamnbbkbaaDoor

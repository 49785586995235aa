/- contracts: sumUp -/
import Derived.Test.YtipeegjbfieknaaDoorRows
import Derived.Test.YtipeegjbfieknaaDoorMnShelf
import Derived.Test.YtipeegjbfieknaaDoorMnAdd
import Derived.WalkKit
import Derived.WalkSpells
import Derived.WalkLawsBesides
import Derived.Outline
namespace Go.Proofs.YtipeegjbfieknaaDoor.Mn
open Go.RowKit Go.Shelf
set_option maxRecDepth 40000
theorem hide {p : Prop} (h : p) : Hid p := h
/-- a slice of whole numbers reads as l -/
def IsI (w : World) (a : Option Addr) (len cap : Nat) (l : List Int) : Prop :=
  l.length = len ∧ len ≤ cap ∧ cap ≤ maxLen ∧ (∀ x ∈ l, -9223372036854775808 ≤ x ∧ x ≤ 9223372036854775807) ∧ (len = 0 ∧ (a = none → cap = 0) ∨ ∃ b off, a = some ⟨b, off, none⟩ ∧ b < w.heap.size ∧ ∀ i, i < len → w.cell? ⟨b, off + i, none⟩ = some (.int .i64 (l.getD i 0)))
theorem wrapU (n : Int) : IntKind.u64.wrap n = n % 18446744073709551616 := IntKind.wrap_u64 n
theorem sum_end (S : Int) (h1 : -170141183460469231731687303715884105728 ≤ S) (h2 : S ≤ 170141183460469231731687303715884105727) : ∃ R V : Int, wrap64 (S % 18446744073709551616) = R ∧ IntKind.u64.wrap (R / 9223372036854775808) = V ∧
    (-9223372036854775808 ≤ S ∧ S ≤ 9223372036854775807 → Hid (R = S) ∧ (S / 18446744073709551616 % 18446744073709551616 != V) = false) ∧
    (¬ (-9223372036854775808 ≤ S ∧ S ≤ 9223372036854775807) → (S / 18446744073709551616 % 18446744073709551616 != V) = true) := by
  refine ⟨_, _, rfl, wrapU _, ?_, ?_⟩
  · intro h
    unfold wrap64
    refine ⟨hide (by omega), ?_⟩
    rw [bne_eq_false_iff_eq]
    have : S / 18446744073709551616 = 0 ∧ S % 18446744073709551616 = S ∨ S / 18446744073709551616 = -1 ∧ S % 18446744073709551616 = S + 18446744073709551616 := by omega
    rcases this with ⟨e1, e2⟩ | ⟨e1, e2⟩ <;> rw [e1, e2] <;> omega
  · intro h
    unfold wrap64
    rw [bne_iff_ne]
    have hb : S = 18446744073709551616 * (S / 18446744073709551616) + S % 18446744073709551616 := by omega
    have hc : 0 ≤ S % 18446744073709551616 ∧ S % 18446744073709551616 < 18446744073709551616 := by omega
    have hd : -9223372036854775808 ≤ S / 18446744073709551616 ∧ S / 18446744073709551616 ≤ 9223372036854775807 := by omega
    generalize S / 18446744073709551616 = a at *
    generalize S % 18446744073709551616 = b at *
    by_cases hs : b < 9223372036854775808
    · have e1 : (b + 9223372036854775808) % 18446744073709551616 - 9223372036854775808 = b := by omega
      have e2 : b / 9223372036854775808 % 18446744073709551616 = 0 := by omega
      rw [e1, e2]; omega
    · have e1 : (b + 9223372036854775808) % 18446744073709551616 - 9223372036854775808 = b - 18446744073709551616 := by omega
      have e2 : (b - 18446744073709551616) / 9223372036854775808 % 18446744073709551616 = 18446744073709551615 := by omega
      rw [e1, e2]; omega
theorem sum_take (l : List Int) (k : Nat) (h : k < l.length) : (l.take (k + 1)).sum = (l.take k).sum + l.getD k 0 := by
  rw [List.take_succ_eq_append_getElem h, List.sum_append, List.getD_eq_getElem?_getD, List.getElem?_eq_getElem h]; simp
theorem sum_bound (l : List Int) (hx : ∀ x ∈ l, -9223372036854775808 ≤ x ∧ x ≤ 9223372036854775807) : -9223372036854775808 * (l.length : Int) ≤ l.sum ∧ l.sum ≤ 9223372036854775807 * (l.length : Int) := by
  induction l with
  | nil => simp
  | cons x r ih =>
    have h1 := hx x List.mem_cons_self
    have h2 := ih (fun y hy => hx y (List.mem_cons_of_mem _ hy))
    simp only [List.sum_cons, List.length_cons]
    omega
theorem getD_bd (l : List Int) (k : Nat) (hx : ∀ x ∈ l, -9223372036854775808 ≤ x ∧ x ≤ 9223372036854775807) : -9223372036854775808 ≤ l.getD k 0 ∧ l.getD k 0 ≤ 9223372036854775807 := by
  rw [List.getD_eq_getElem?_getD]
  by_cases h : k < l.length
  · rw [List.getElem?_eq_getElem h]; exact hx _ (List.getElem_mem h)
  · rw [List.getElem?_eq_none (by omega)]; decide
/-- an int64 -/
def In64 (n : Int) : Prop := -9223372036854775808 ≤ n ∧ n ≤ 9223372036854775807
/-- what a checked number comes to -/
def num (n : Int) : Int := if -9223372036854775808 ≤ n ∧ n ≤ 9223372036854775807 then n else 0
def err (n : Int) : Int := if -9223372036854775808 ≤ n ∧ n ≤ 9223372036854775807 then 0 else 5
theorem ret_two {a b c d : Int} (h : a = b) (h' : c = d) : Ending.returned (.tuple #[.int .i64 a, .int .i64 c]) = .returned (.tuple #[.int .i64 b, .int .i64 d]) := by rw [h, h']
end Go.Proofs.YtipeegjbfieknaaDoor.Mn

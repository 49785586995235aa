/- contracts: the document's Share, whatever it is given -/
import Derived.Test.YtjhlilamnbbkbaaDoorS4
namespace Go.Proofs.YtjhlilamnbbkbaaDoor
open Go.RowKit Go.Shelf Go.Sort Go.Lib
theorem refShare_many (T : Int) (a : Option Addr) (len cap : Nat) (l : List Int) (w : World) (hl : l.length = len) (hlen : 4096 < len) :
    Calls Tryd.prog 24 #[.int .i64 T, .slice a len cap] w fun e w' => shErr T l ≠ 0 ∧ e = .returned (.tuple #[.slice none 0 0, .int .i64 (shErr T l)]) ∧ w' = w := by
  have HE : Hid (shErr T l = 3) := hide (if_pos (by omega))
  have t1 : (4096 : Int) < (len : Int) := by omega
  go_enter Tryd.func24, Tryd.ntmps24
  go_wp2
  go_ret2
  exact ⟨by rw [HE.out]; decide, nil_err HE.out.symm, rfl⟩
theorem refShare_none (T : Int) (a : Option Addr) (cap : Nat) (w : World) :
    Calls Tryd.prog 24 #[.int .i64 T, .slice a 0 cap] w fun e w' => e = .returned (.tuple #[.slice none 0 0, .int .i64 2]) ∧ w' = w := by
  go_enter Tryd.func24, Tryd.ntmps24
  go_wp2_with fail
  go_loop [6, 22] (fun sm i => sm = .bool false ∧ i = .int .i64 0) (fun _ _ => 0)
  case atStart => exact ⟨rfl, rfl⟩
  case round =>
    obtain ⟨rfl, rfl⟩ := hrel
    by_cases hT : T < 0
    · go_wp2
      go_ret2
      exact ⟨rfl, rfl⟩
    · have d0 : decide (T < 0) = false := by simpa using hT
      go_wp2
      go_ret2
      exact ⟨rfl, rfl⟩
theorem shErr_nil (T : Int) : shErr T [] = 2 := shErr_aw (by simp) rfl
/-- ladingref01.Share -/
theorem refShare_any (T : Int) (a : Option Addr) (len cap : Nat) (l : List Int) (w : World) (hT : In64 T) (h : IsI w a len cap l) :
    Calls Tryd.prog 24 #[.int .i64 T, .slice a len cap] w fun e w' =>
      (shErr T l ≠ 0 ∧ e = .returned (.tuple #[.slice none 0 0, .int .i64 (shErr T l)]) ∧ w' = w) ∨
      (shErr T l = 0 ∧ ∃ g c, e = .returned (.tuple #[.slice (some ⟨g, 0, none⟩) len c, .int .i64 0]) ∧ RowI w' g len c (share T l) ∧ w.heap.size ≤ g ∧ Below w.heap.size w w') := by
  have hl := h.1
  by_cases h1 : 4096 < len
  · exact (refShare_many T a len cap l w hl h1).mono fun e w' h => .inl h
  · by_cases h2 : len = 0
    · subst h2
      obtain rfl : l = [] := List.length_eq_zero_iff.1 hl
      rw [shErr_nil]
      exact (refShare_none T a cap w).mono fun e w' h => .inl ⟨by decide, h⟩
    · obtain ⟨b, off, rfl, _, _⟩ := h.2.2.2.2.resolve_left (by omega)
      exact refShare_some T b off len cap l w hT h (by omega) (by omega)
end Go.Proofs.YtjhlilamnbbkbaaDoor

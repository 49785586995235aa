/- contracts: Seal -/
import Derived.Test.YtecmfpgccmmlpaaCrC
import Derived.Laws.CopyOwn
import Derived.Laws.AppendOwnNone
import Derived.Deep.DeepAppendRoom
namespace Go.Proofs.Ytecmfpgccmmlpaa
open Go.RowKit
set_option maxRecDepth 40000
/-- the four bytes of a checksum, the lowest one first -/
def le (c : Nat) : List Nat := [c % 256, c / 256 % 256, c / 65536 % 256, c / 16777216 % 256]
theorem le_lt (c : Nat) : ∀ x ∈ le c, x < 256 := by
  intro x hx; simp only [le, List.mem_cons, List.not_mem_nil, or_false] at hx; omega
theorem run_cp (W : World) (a : Option Addr) (len cap : Nat) (l : List Nat) (h : IsB W a len cap l) :
    (Builtin.copy_ #[25, 25] 3 #[.slice (some ⟨W.heap.size, 0, none⟩) len (len + 4), .slice a len cap]).run Try.prog (W.alloc (.cells (zeros (len + 4)).toArray 5)) = .ok (.int .i64 (len : Int)) (W.alloc (.cells (bv l ++ zeros 4).toArray 5)) := by
  obtain ⟨h1, h2, h3, h4, h5⟩ := h
  have hsz : (Try.prog.info? 5).map (·.size) = some 1 := by kernel_rfl
  rcases h5 with ⟨h5, _⟩ | ⟨b, off, rfl, hlt, hc⟩
  · subst h5
    obtain rfl : l = [] := List.length_eq_zero_iff.1 h1
    exact run_copy_none (P := Try.prog) _ 25 25 3 5 _ _ _ _ _ _ Try.underlying25 hsz (by simp)
  · have hr := run_copy_row (P := Try.prog) (W.alloc (.cells (zeros (len + 4)).toArray 5)) 25 25 3 5 W.heap.size 0 len (len + 4) ⟨b, off, none⟩ len cap (zeros (len + 4)).toArray 5 (bv l) Try.underlying25 hsz (heap_alloc_new W _) (by rw [bv_length, h1]; simp)
      (by
        intro j v hj
        have hjl : j < l.length := by
          rw [← bv_length]
          exact (List.getElem?_eq_some_iff.1 hj).1
        rw [bv_get l j hjl] at hj
        cases hj
        rw [addr_add]
        exact (((Below.refl W.heap.size W).alloc (Nat.le_refl _) (.cells (zeros (len + 4)).toArray 5)).cell (p := ⟨b, off + j, none⟩) hlt).trans (hc j (by omega)))
      (by rw [bv_length]; simp [zeros, h1]) (bv_one l)
    rw [hr, setRow_alloc]
    congr 2
    · rw [bv_length, h1]
    · congr 2
      simp only [List.take_zero, List.nil_append, bv_length, h1, Nat.zero_add]
      simp [zeros]
theorem getD_le (c k : Nat) : (le c).getD k 0 = if k < 4 then c / 2 ^ (8 * k) % 256 else 0 := by
  match k with
  | 0 => simp [le]
  | 1 => simp [le]
  | 2 => simp [le]
  | 3 => simp [le]
  | k + 4 =>
    rw [if_neg (by omega)]; simp [le]
end Go.Proofs.Ytecmfpgccmmlpaa

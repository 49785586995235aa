/- the document's Scan -/
import Derived.Test.YtlkmcbelmldleaaGreatVYd
import Derived.Test.YtlkmcbelmldleaaGreatVYe
namespace Go.Proofs.YtlkmcbelmldleaaGreat
open Go.RowKit Go.Shelf
set_option maxRecDepth 40000
theorem scanF_len (L : List Vr) (fr to : ByteArray) (t : Nat) : ∀ (p : Option (List UInt8)) (l : List Vr), (scanF L fr to t p l).length ≤ l.length
  | _, [] => Nat.le_refl _
  | p, x :: r => by
    have h := scanF_len L fr to t (some x.key.toList) r
    rw [scanF]
    by_cases h1 : p = some x.key.toList
    · rw [if_pos h1]; simp; omega
    · rw [if_neg h1, List.length_append]
      have : (item L fr to t x).toList.length ≤ 1 := by cases item L fr to t x <;> simp
      simp; omega
end Go.Proofs.YtlkmcbelmldleaaGreat

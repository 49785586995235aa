/- contracts: the document's ReadNum, ReadInt, ReadText -/
import Derived.Test.YtebikoekpbnpbaaCD
namespace Go.Proofs.Ytebikoekpbnpbaa
open Go.RowKit Cod
set_option maxRecDepth 40000
theorem IsB.back {w : World} {b off len cap : Nat} {l : List Nat} (h : IsB w (some ⟨b, off, none⟩) len cap l) (n : Nat) (hn : n ≤ len) : IsB w (some ⟨b, off + n, none⟩) (len - n) (cap - n) (l.drop n) := by
  obtain ⟨h1, h2, h3, h4, h5⟩ := h
  refine ⟨by simp; omega, by omega, by omega, mem_drop h4, ?_⟩
  rcases h5 with ⟨h5, _⟩ | ⟨b', off', hb, hlt, hc⟩
  · exact .inl ⟨by omega, by intro h; cases h⟩
  · cases hb
    refine .inr ⟨b, off + n, rfl, hlt, fun i hi => ?_⟩
    rw [Nat.add_assoc, hc (n + i) (by omega)]
    simp [List.getD_eq_getElem?_getD]
end Go.Proofs.Ytebikoekpbnpbaa

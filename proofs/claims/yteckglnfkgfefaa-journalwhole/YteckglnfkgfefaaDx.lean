/- contracts: Read, in all its ways -/
import Derived.Test.YteckglnfkgfefaaAx
namespace Go.Proofs.Yteckglnfkgfefaa
open Go.RowKit
variable {X : Nat → Prop}
theorem IsD.dat {w : World} {g gs b n : Nat} {st : St} (h : IsD X w g gs b n st) {i : Nat} (hi : i < n) : (∀ x ∈ st.reads i, x < 256) ∧ (st.reads i).length ≤ 4096 := by
  obtain ⟨cur, hc, hsz, hd⟩ := h.syn
  obtain ⟨m, D, hown, hm, hfr⟩ := h.map
  have key : ∀ {v : Value} {l : List Nat}, Dat X w v l → (∀ x ∈ l, x < 256) ∧ l.length ≤ 4096 := by
    rintro v l ⟨a, len, cap, rfl, hB, hl, _⟩
    exact ⟨hB.2.2.2.1, by rw [hB.1]; exact hl⟩
  unfold St.reads
  rcases hfr.1 i hi with ⟨h1, _⟩ | ⟨l, v, h1, _, h2, _⟩
  · rw [h1]
    obtain ⟨v, _, hv⟩ := hd i hi
    exact key hv
  · rw [h1]
    exact key h2
def St.readE (n : Nat) (i : Int) (st : St) : Int := if st.down = true then 8 else if ¬ (0 ≤ i ∧ i < n) then 2 else 0
def St.readL (n : Nat) (i : Int) (st : St) : List Nat := if st.down = true then [] else if ¬ (0 ≤ i ∧ i < n) then [] else full (st.reads i.toNat)
/-- a disk that is up again, and not armed -/
def St.ups (n : Nat) (st : St) : St := if st.down = true then (st.rest n []).1 else st
end Go.Proofs.Yteckglnfkgfefaa

/- contracts: Read, in all its ways -/
import Derived.Test.YtecmfpgccmmlpaaAx
namespace Go.Proofs.Ytecmfpgccmmlpaa
open Go.RowKit
variable {X : Nat → Prop}
theorem IsD.dat {w : World} {g gs b n : Nat} {st : St} (h : IsD X w g gs b n st) {i : Nat} (hi : i < n) : (∀ x ∈ st.reads i, x < 256) ∧ (st.reads i).length ≤ 4096 := by
  obtain ⟨cur, hc, hsz, hd⟩ := h.syn
  obtain ⟨m, D, hown, hm, hfr⟩ := h.map
  have key : ∀ {v : Value} {l : List Nat}, Dat X w v l → (∀ x ∈ l, x < 256) ∧ l.length ≤ 4096 := by
    rintro v l ⟨a, len, cap, rfl, hB, hl, _⟩
    exact ⟨hB.2.2.2.1, by rw [hB.1]; exact hl⟩
  unfold St.reads
  rcases hfr.1 i hi with ⟨h1, _⟩ | ⟨l, v, h1, _, h2, _⟩
  · rw [h1]
    obtain ⟨v, _, hv⟩ := hd i hi
    exact key hv
  · rw [h1]
    exact key h2
def St.readE (n : Nat) (i : Int) (st : St) : Int := if st.down = true then 8 else if ¬ (0 ≤ i ∧ i < n) then 2 else 0
def St.readL (n : Nat) (i : Int) (st : St) : List Nat := if st.down = true then [] else if ¬ (0 ≤ i ∧ i < n) then [] else full (st.reads i.toNat)
theorem read_any (w : World) (g gs b n : Nat) (st : St) (h : IsD X w g gs b n st) (i : Int) :
    Calls Try.prog 114 #[.pointer (some ⟨g, 0, none⟩), .int .i64 i] w fun e w' => ∃ a len cap, e = .returned (.tuple #[.slice a len cap, .int .i64 (st.readE n i)]) ∧ IsB w' a len cap (st.readL n i) ∧ Below w.heap.size w w' := by
  unfold St.readE St.readL
  by_cases hd : st.down = true
  · rw [if_pos hd, if_pos hd]
    exact (read_dn w g gs b n st h hd i).mono (by rintro e w' ⟨rfl, rfl⟩; exact ⟨none, 0, 0, rfl, isB_nil _, Below.refl _ _⟩)
  · rw [if_neg hd, if_neg hd]
    by_cases hi : 0 ≤ i ∧ i < n
    · rw [if_neg (fun e => e hi), if_neg (fun e => e hi)]
      obtain ⟨k, rfl⟩ : ∃ k : Nat, i = k := ⟨i.toNat, by omega⟩
      rw [Int.toNat_natCast]
      refine (read_ok w g gs b n st h (bool_not hd) k (by omega)).mono ?_
      rintro e w' ⟨q, rfl, hq, hrow, hb⟩
      exact ⟨_, _, _, rfl, hrow.isB (full_lt (h.dat (by omega)).1), hb⟩
    · rw [if_pos hi, if_pos hi]
      exact (read_range w g gs b n st h (bool_not hd) i hi).mono (by rintro e w' ⟨rfl, rfl⟩; exact ⟨none, 0, 0, rfl, isB_nil _, Below.refl _ _⟩)
theorem isF_nil (w : World) : IsF w none 0 0 [] := ⟨rfl, Nat.le_refl _, Nat.zero_le _, by simp, fun i hi => by omega⟩
/-- a disk that is up again, and not armed -/
def St.ups (n : Nat) (st : St) : St := if st.down = true then (st.rest n []).1 else st
theorem ups_down (n : Nat) (st : St) : (st.ups n).down = false := by
  unfold St.ups
  by_cases hd : st.down = true
  · rw [if_pos hd]
    unfold St.rest
    rw [if_pos hd, if_neg (by simp), if_pos (by simp [goodB])]
    rfl
  · rw [if_neg hd]; exact bool_not hd
end Go.Proofs.Ytecmfpgccmmlpaa

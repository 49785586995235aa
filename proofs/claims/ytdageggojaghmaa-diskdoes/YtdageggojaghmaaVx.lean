/- the document's functions: torn, its lists -/
import Derived.Test.YtdageggojaghmaaUx
namespace Go.Proofs.Ytdageggojaghmaa
open Go.RowKit
theorem tornK_bit {mask : Nat} {m m2 : List Nat} (h : m.length = 4096) (h2 : m2.length = 4096) : ∀ k, k ≤ 8 → ∀ t, grain (tornK mask m m2 k) t = if t < k ∧ bitB mask t = true then grain m2 t else grain m t
  | 0, _, t => by rw [if_neg (by omega)]; rfl
  | k + 1, hk, t => by
    have ih := tornK_bit (mask := mask) h h2 k (by omega) t
    rw [tornK]
    split
    · rename_i hb
      by_cases htk : t = k
      · subst htk
        rw [if_pos ⟨by omega, hb⟩]
        apply grain_ext
        intro j hj
        rw [patch_get (tornK_length h h2 t (by omega)) h2 (by omega), if_pos ⟨by omega, by omega⟩]
      · have e : grain (patch (tornK mask m m2 k) m2 (k * 512) 512) t = grain (tornK mask m m2 k) t := by
          apply grain_ext
          intro j hj
          rw [patch_get (tornK_length h h2 k (by omega)) h2 (by omega), if_neg (by omega)]
        rw [e, ih]
        by_cases hc : t < k ∧ bitB mask t = true
        · rw [if_pos hc, if_pos ⟨by omega, hc.2⟩]
        · rw [if_neg hc, if_neg (fun h => hc ⟨by omega, h.2⟩)]
    · rename_i hb
      rw [ih]
      by_cases hc : t < k ∧ bitB mask t = true
      · rw [if_pos hc, if_pos ⟨by omega, hc.2⟩]
      · rw [if_neg hc, if_neg (fun h => hc ⟨by
          rcases Nat.lt_or_ge t k with h' | h'
          · exact h'
          · exfalso
            have : t = k := by omega
            subst this
            exact hb h.2, h.2⟩)]
theorem take_grain (l : List Nat) (t : Nat) : l.take (t * 512) ++ grain l t = l.take ((t + 1) * 512) := by
  unfold grain
  rw [Nat.succ_mul, List.take_add]
theorem grain_isB' {w : World} {q c : Nat} {l : List Nat} (h : Row w q 4096 c l) (hx : ∀ x ∈ l, x < 256) (t : Nat) (ht : t < 8) : IsB w (some ⟨q, t * 512, none⟩) 512 (c - t * 512) (grain l t) := by
  have h1 := ((h.isB hx).back (t * 512) (by omega)).front 512 (by omega)
  rw [Nat.zero_add] at h1
  exact h1
end Go.Proofs.Ytdageggojaghmaa

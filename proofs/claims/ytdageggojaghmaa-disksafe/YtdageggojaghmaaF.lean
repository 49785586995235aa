/- two disks beside one another; a disk that is synced -/
import Derived.Test.YtdageggojaghmaaE
import Derived.Test.YtdageggojaghmaaD
namespace Go.Proofs.Ytdageggojaghmaa
open Go.RowKit
/-- what is done with a disk changes nothing of another one -/
theorem IsD.beside {w w' : World} {g gs b n g' gs' b' n' : Nat} {st st' : St} (h : IsD w g' gs' b' n' st') (hI : IsD w g gs b n st) (hf : Frm (SD g gs b) w w') (hs : ∀ i, SD g gs b i → ¬ SD g' gs' b' i) : IsD w' g' gs' b' n' st' :=
  h.kept hf hs (K5.of_frm hf hI.no5)
theorem sd_lt {w : World} {g gs b n : Nat} {st : St} (h : IsD w g gs b n st) : ∀ i, SD g gs b i → i < w.heap.size := by
  rintro i (rfl | rfl | rfl)
  · exact h.lts.1
  · exact h.lts.2.1
  · exact h.lts.2.2
theorem uns_none (s : St) (n : Nat) (h : ∀ k, s.fr k = none) : s.uns n = [] := by
  unfold St.uns
  rw [List.filter_eq_nil_iff]
  intro k _
  rw [h k]
  simp
/-- power, nothing unsynced, these bytes -/
def Synced (s : St) (f : Nat → List Nat) : Prop := s.down = false ∧ (∀ k, s.fr k = none) ∧ s.syn = f
theorem Synced.reads {s : St} {f : Nat → List Nat} (h : Synced s f) (i : Nat) : s.reads i = f i := by
  unfold St.reads
  rw [h.2.1 i, ← h.2.2]
  rfl
theorem Synced.readE {s : St} {f : Nat → List Nat} (h : Synced s f) {n : Nat} {i : Nat} (hi : i < n) : s.readE n i = 0 ∧ s.readL n i = full (f i) := by
  unfold St.readE St.readL
  have h1 : ¬ s.down = true := by rw [h.1]; simp
  have h2 : (0 : Int) ≤ i ∧ (i : Int) < n := by omega
  rw [if_neg h1, if_neg h1, if_neg (fun e => e h2), if_neg (fun e => e h2), Int.toNat_natCast, h.reads]
  exact ⟨rfl, rfl⟩
theorem rest_synced (s : St) (f : Nat → List Nat) (n : Nat) (l : List (Nat × Nat)) (hd : s.down = true) (hfr : ∀ k, s.fr k = none) (hf : s.syn = f) :
    ((s.rest n l).2 = 0 ∧ Synced (s.rest n l).1 f) ∨ ((s.rest n l).2 ≠ 0 ∧ (s.rest n l).1 = s ∧ l ≠ []) := by
  unfold St.rest
  rw [if_pos hd]
  by_cases h1 : 1024 < l.length
  · right
    rw [if_pos h1]
    refine ⟨fun e => (by cases e), rfl, ?_⟩
    rintro rfl
    simp at h1
  · rw [if_neg h1]
    by_cases h2 : goodB l = true
    · left
      rw [if_pos h2, uns_none s n hfr]
      exact ⟨rfl, rfl, fun _ => rfl, hf⟩
    · right
      rw [if_neg h2]
      refine ⟨fun e => (by cases e), rfl, ?_⟩
      rintro rfl
      exact h2 rfl
theorem sync_synced (s : St) (hd : s.down = false) : s.sync = (s.syncs, 0) ∧ Synced s.syncs s.syncs.syn := by
  unfold St.sync
  rw [if_neg (by rw [hd]; simp)]
  exact ⟨rfl, hd, fun _ => rfl, rfl⟩
end Go.Proofs.Ytdageggojaghmaa

/- steps and pairs that are handed in, and how many they are -/
import Derived.Test.YtlkmcbelmldleaaGreatRows
import Derived.Test.YtlkmcbelmldleaaGreatCx6
namespace Go.Proofs.YtlkmcbelmldleaaGreat
open Go.RowKit Go.ChangeShapes Go.WideShapes Go.Deep
set_option maxRecDepth 40000
theorem bulk_one {H : Type} (d : DataW H) : 1 ≤ Rows.uptoBulk d := by
  cases d with
  | lit l => cases l <;> simp [Rows.uptoBulk]
  | nil => simp [Rows.uptoBulk]
  | ptr d => simp [Rows.uptoBulk]
  | slice elems spare => simp [Rows.uptoBulk]
  | agg parts => simp [Rows.uptoBulk]
  | iface t d => simp [Rows.uptoBulk]
  | map entries => simp [Rows.uptoBulk]
  | held h => simp [Rows.uptoBulk]
theorem bulk_len {H : Type} (l : List (DataW H)) : l.length ≤ Rows.uptoBulkAll l := by
  induction l with
  | nil => simp [Rows.uptoBulkAll]
  | cons x r ih => have := bulk_one x; simp only [Rows.uptoBulkAll, List.length_cons]; omega
theorem slice_le {H : Type} (es sp : List (DataW H)) : es.length ≤ Rows.uptoBulk (.slice es sp) := by
  have := bulk_len es
  simp only [Rows.uptoBulk]
  omega
section
variable {H : Type} {enc : TypeId × Value → H} {W : World} {base : Nat} {spare : Nat → Bool} {held : Bool}
theorem open_prs_u {fuel : Nat} {cs : List Value} {x : DataW H × List MemPlace} (h : DataW.trod enc Tryz.prog W base spare held fuel 22 cs = some x) (hlt : ∀ p ∈ x.2, p.block < W.heap.size) :
    ∃ a len cap l, cs = [.slice a len cap] ∧ IsP W a len cap l ∧ len ≤ Rows.uptoBulk x.1 := by
  rcases open_slice Tryz.underlying22 h with ⟨rfl, _⟩ | ⟨a, len, cap, m, n, D, Pl, rfl, hb, hl, hm, hmm, rfl, hx⟩
  · exact ⟨none, 0, 0, [], rfl, isP_none W, Nat.zero_le _⟩
  · have hlm : len ≤ m := by rw [hmm]; split <;> omega
    have each : ∀ i, i < len → ∃ e : Pr, (∀ j, j < 2 → W.cell? (a.add (i * 2 + j)) = (prc e)[j]?) := by
      intro i hi
      obtain ⟨cs', h1, h2⟩ := hx i (by omega)
      rw [ocells62] at h1
      obtain ⟨e, rfl⟩ := open_pr h2
      obtain ⟨_, _, hcell⟩ := World.cells?_some h1
      refine ⟨e, fun j hj => ?_⟩
      have e0 := hcell j (by omega)
      rw [oadd] at e0
      rw [e0]
    obtain ⟨f, hf⟩ := ochoose Pr0 each
    refine ⟨some a, len, cap, (List.range len).map f, rfl, ⟨by simp, hl, hm, fun i hi => ?_⟩, ?_⟩
    · obtain ⟨b, off, spot⟩ := a
      have hc := hf i hi
      have hspot : spot = none := by
        have := World.cell?_spot (show W.cell? _ = some _ from hf 0 (by omega) 0 (by omega))
        simpa [Addr.add] using this
      subst hspot
      have hg : ((List.range len).map f).getD i Pr0 = f i := by simp [List.getD_eq_getElem?_getD, hi]
      rw [hg]
      refine ⟨b, off, rfl, ?_, ?_, ?_⟩
      · refine hlt (.cell b off) (List.mem_append_left _ ?_)
        exact MemPlace.mem_row.2 ⟨0, by rw [ocells62]; omega, by simp⟩
      · have := hc 0 (by omega); rw [oadd0] at this; exact this
      · have := hc 1 (by omega); rw [oadd0] at this; rw [Nat.add_assoc]; exact this
    · refine Nat.le_trans (Nat.le_of_eq ?_) (slice_le _ _)
      simp
theorem open_stps_u {fuel : Nat} {cs : List Value} {x : DataW H × List MemPlace} (h : DataW.trod enc Tryz.prog W base spare held fuel 23 cs = some x) (hlt : ∀ p ∈ x.2, p.block < W.heap.size) :
    ∃ a len cap l, cs = [.slice a len cap] ∧ IsSt W a len cap l ∧ len ≤ Rows.uptoBulk x.1 := by
  rcases open_slice Tryz.underlying23 h with ⟨rfl, _⟩ | ⟨a, len, cap, m, n, D, Pl, rfl, hb, hl, hm, hmm, rfl, hx⟩
  · exact ⟨none, 0, 0, [], rfl, isSt_none W, Nat.zero_le _⟩
  · have hlm : len ≤ m := by rw [hmm]; split <;> omega
    have each : ∀ i, i < len → ∃ e : Sx, i64B e.t ∧ (∀ j, j < 5 → W.cell? (a.add (i * 5 + j)) = (sxc e)[j]?) := by
      intro i hi
      obtain ⟨cs', h1, h2⟩ := hx i (by omega)
      rw [ocells40] at h1
      obtain ⟨e, rfl, ht⟩ := open_step h2
      obtain ⟨_, _, hcell⟩ := World.cells?_some h1
      refine ⟨e, ht, fun j hj => ?_⟩
      have e0 := hcell j (by omega)
      rw [oadd] at e0
      rw [e0]
    obtain ⟨f, hf⟩ := ochoose Sx0 each
    refine ⟨some a, len, cap, (List.range len).map f, rfl, ⟨by simp, hl, hm, fun i hi => ?_⟩, ?_⟩
    · obtain ⟨b, off, spot⟩ := a
      have hc := (hf i hi).2
      have hspot : spot = none := by
        have := World.cell?_spot (show W.cell? _ = some _ from (hf 0 (by omega)).2 0 (by omega))
        simpa [Addr.add] using this
      subst hspot
      have hg : ((List.range len).map f).getD i Sx0 = f i := by simp [List.getD_eq_getElem?_getD, hi]
      rw [hg]
      refine ⟨(hf i hi).1, b, off, rfl, ?_, ?_, ?_, ?_, ?_, ?_⟩
      · refine hlt (.cell b off) (List.mem_append_left _ ?_)
        exact MemPlace.mem_row.2 ⟨0, by rw [ocells40]; omega, by simp⟩
      · have := hc 0 (by omega); rw [oadd0] at this; exact this
      · have := hc 1 (by omega); rw [oadd0] at this; rw [Nat.add_assoc]; exact this
      · have := hc 2 (by omega); rw [oadd0] at this; rw [Nat.add_assoc]; exact this
      · have := hc 3 (by omega); rw [oadd0] at this; rw [Nat.add_assoc]; exact this
      · have := hc 4 (by omega); rw [oadd0] at this; rw [Nat.add_assoc]; exact this
    · refine Nat.le_trans (Nat.le_of_eq ?_) (slice_le _ _)
      simp
end
end Go.Proofs.YtlkmcbelmldleaaGreat

/- what a key is behind a sweep -/
import Derived.Test.YtlkmcbelmldleaaGreatVYb
import Derived.Test.YtlkmcbelmldleaaGreatVLawSteps
namespace Go.Proofs.YtlkmcbelmldleaaGreat
open Go.RowKit
set_option maxRecDepth 40000
theorem lastTo_cons (x : Vr) (r : List Vr) (t : Nat) : lastTo (x :: r) t = (lastTo r t).or (if x.at_ ≤ t then some x else none) := by
  unfold lastTo
  rw [List.reverse_cons, List.find?_append]
  congr 1
  by_cases h : x.at_ ≤ t <;> simp [h]
/-- versions of one key, in order -/
def OneK (q : List Vr) : Prop := q.Pairwise (fun x y => x.at_ < y.at_)
theorem oneK_filter {l : List Vr} (h : Srt l) (key : ByteArray) : OneK (l.filter (sameK key)) := by
  refine List.Pairwise.imp_of_mem ?_ (h.sublist (List.filter_sublist (p := sameK key)))
  intro a b ha hb hab
  exact srt_at hab ((sameK_iff.1 (List.mem_filter.1 hb).2).trans (sameK_iff.1 (List.mem_filter.1 ha).2).symm)
theorem lastTo_none_iff {q : List Vr} {t : Nat} : lastTo q t = none ↔ ∀ y ∈ q, ¬ y.at_ ≤ t := by
  unfold lastTo
  rw [List.find?_eq_none]
  constructor
  · intro h y hy; simpa using h y (List.mem_reverse.2 hy)
  · intro h y hy; simpa using h y (List.mem_reverse.1 hy)
theorem lastTo_is {t : Nat} : ∀ {q : List Vr} {z : Vr}, OneK q → z ∈ q → z.at_ ≤ t → (∀ y ∈ q, y.at_ ≤ t → y.at_ ≤ z.at_) → lastTo q t = some z
  | [], _, _, h, _, _ => by cases h
  | x :: r, z, h, hz, ht, hm => by
    obtain ⟨h1, h2⟩ := List.pairwise_cons.1 h
    rw [lastTo_cons]
    rcases List.mem_cons.1 hz with rfl | hz
    · have : lastTo r t = none := lastTo_none_iff.2 (fun y hy hyt => by
        have := h1 y hy
        have := hm y (List.mem_cons_of_mem _ hy) hyt
        omega)
      rw [this, if_pos ht]
      rfl
    · rw [lastTo_is h2 hz ht (fun y hy => hm y (List.mem_cons_of_mem _ hy))]
      rfl
theorem lastTo_max {t : Nat} : ∀ {q : List Vr} {z : Vr}, OneK q → lastTo q t = some z → z ∈ q ∧ z.at_ ≤ t ∧ ∀ y ∈ q, y.at_ ≤ t → y.at_ ≤ z.at_
  | [], _, _, h => by cases h
  | x :: r, z, h, hz => by
    obtain ⟨h1, h2⟩ := List.pairwise_cons.1 h
    rw [lastTo_cons] at hz
    cases hr : lastTo r t with
    | none =>
      rw [hr] at hz
      have hno := lastTo_none_iff.1 hr
      by_cases hx : x.at_ ≤ t
      · rw [if_pos hx] at hz
        cases hz
        refine ⟨by simp, hx, fun y hy hyt => ?_⟩
        rcases List.mem_cons.1 hy with rfl | hy
        · omega
        · exact absurd hyt (hno y hy)
      · rw [if_neg hx] at hz; cases hz
    | some y =>
      rw [hr] at hz
      cases hz
      obtain ⟨k1, k2, k3⟩ := lastTo_max h2 hr
      refine ⟨List.mem_cons_of_mem _ k1, k2, fun u hu hut => ?_⟩
      rcases List.mem_cons.1 hu with rfl | hu
      · have := h1 z k1; omega
      · exact k3 u hu hut
/-- behind a sweep every key is what it was -/
theorem swept_seen {low : Nat} {l : List Vr} (hg : goodB low l = true) {t ask : Nat} (ha : ¬ ask < t) (key : ByteArray) : seenR (lastTo ((l.filter (keepB t l)).filter (sameK key)) ask) = seenR (lastTo (l.filter (sameK key)) ask) := by
  have hs := good_srt hg
  have ho := oneK_filter hs key
  have ho2 := oneK_filter (show Srt (l.filter (keepB t l)) from hs.sublist List.filter_sublist) key
  have hin : ∀ y, y ∈ (l.filter (keepB t l)).filter (sameK key) ↔ (y ∈ l.filter (sameK key) ∧ keepB t l y = true) := fun y => by
    simp only [List.mem_filter]
    exact ⟨fun ⟨⟨a, b⟩, c⟩ => ⟨⟨a, c⟩, b⟩, fun ⟨⟨a, c⟩, b⟩ => ⟨⟨a, b⟩, c⟩⟩
  cases hq : lastTo (l.filter (sameK key)) ask with
  | none =>
    have hno := lastTo_none_iff.1 hq
    rw [lastTo_none_iff.2 (fun y hy => hno y ((hin y).1 hy).1)]
  | some x =>
    obtain ⟨k1, k2, k3⟩ := lastTo_max ho hq
    obtain ⟨x1, x2⟩ := List.mem_filter.1 k1
    have hsame : ∀ y ∈ l, y.key.toList = x.key.toList → y ∈ l.filter (sameK key) := fun y hy e => List.mem_filter.2 ⟨hy, sameK_iff.2 (e.trans (sameK_iff.1 x2))⟩
    by_cases hk : keepB t l x = true
    · rw [lastTo_is ho2 ((hin x).2 ⟨k1, hk⟩) k2 (fun y hy hyt => k3 y ((hin y).1 hy).1 hyt)]
    · have hxt : x.at_ ≤ t := by
        by_cases h : x.at_ ≤ t
        · exact h
        · exact absurd (keep_iff.2 (.inl (by omega))) hk
      have hgone : x.gone = true := by
        cases hgo : x.gone
        · refine absurd (keep_iff.2 (.inr ⟨hgo, fun y hy hc => ?_⟩)) hk
          have := k3 y (hsame y hy hc.1) (by omega)
          omega
        · rfl
      have hnone : lastTo ((l.filter (keepB t l)).filter (sameK key)) ask = none := lastTo_none_iff.2 (fun y hy hyt => by
        obtain ⟨y1, y2⟩ := (hin y).1 hy
        have hyx := k3 y y1 hyt
        have hye : y.key.toList = x.key.toList := (sameK_iff.1 (List.mem_filter.1 y1).2).trans (sameK_iff.1 x2).symm
        rcases keep_iff.1 y2 with h | ⟨h, h'⟩
        · omega
        · by_cases e : y.at_ < x.at_
          · exact h' x x1 ⟨hye.symm, e, hxt⟩
          · rcases srt_total hs (List.mem_filter.1 y1).1 x1 with h3 | h3 | h3
            · subst h3; rw [hgone] at h; cases h
            · have := srt_at h3 hye.symm; omega
            · have := srt_at h3 hye; omega)
      rw [hnone]
      have hr := good_at hg x1
      unfold rightB at hr
      simp only [Bool.and_eq_true, hgone, Bool.true_and, Bool.not_not, List.isEmpty_iff] at hr
      have hv : x.val = ⟨#[]⟩ := str_inj (by rw [hr.2, ByteArray.toList_eq])
      simp [seenR, hv, hgone]
theorem swept_get {low : Nat} {l : List Vr} {t ask : Nat} (h : sweepE low l t = 0) (ha : ¬ ask < t) (key : ByteArray) : ∃ s b, getR low l key ask = (s, b, 0) ∧ getR t (l.filter (keepB t l)) key ask = (s, b, 0) := by
  obtain ⟨h1, h2, h3⟩ := sweepE_iff.1 h
  refine ⟨_, _, getR_good h1 (by omega), ?_⟩
  rw [getR_good (good_sub h1 (by omega) _) ha, swept_seen h1 ha]
end Go.Proofs.YtlkmcbelmldleaaGreat

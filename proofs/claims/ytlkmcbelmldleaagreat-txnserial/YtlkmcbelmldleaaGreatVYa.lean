/- what a sweep leaves, as a filter -/
import Derived.Test.YtlkmcbelmldleaaGreatVLawLast
namespace Go.Proofs.YtlkmcbelmldleaaGreat
open Go.RowKit
set_option maxRecDepth 40000
/-- a later version of the key, up to a time -/
def laterB (t : Nat) (x y : Vr) : Bool := decide (y.key.toList = x.key.toList) && (decide (x.at_ < y.at_) && decide (y.at_ ≤ t))
/-- what a sweep keeps -/
def keepB (t : Nat) (l : List Vr) (x : Vr) : Bool := decide (t < x.at_) || (!x.gone && !l.any (laterB t x))
theorem later_iff {t : Nat} {x y : Vr} : laterB t x y = true ↔ y.key.toList = x.key.toList ∧ x.at_ < y.at_ ∧ y.at_ ≤ t := by
  unfold laterB; simp
theorem keep_iff {t : Nat} {l : List Vr} {x : Vr} : keepB t l x = true ↔ t < x.at_ ∨ (x.gone = false ∧ ∀ y ∈ l, ¬ (y.key.toList = x.key.toList ∧ x.at_ < y.at_ ∧ y.at_ ≤ t)) := by
  unfold keepB
  simp only [Bool.or_eq_true, decide_eq_true_eq, Bool.and_eq_true, Bool.not_eq_true', List.any_eq_false, later_iff]
theorem srt_at {x y : Vr} (h : behindB x y = true) (e : y.key.toList = x.key.toList) : x.at_ < y.at_ := by
  unfold behindB at h
  rw [e, less_irrefl] at h
  simpa using h
theorem keep_cons {t : Nat} {x : Vr} {r : List Vr} (h : Srt (x :: r)) : ∀ z ∈ r, keepB t (x :: r) z = keepB t r z := by
  intro z hz
  have hb := List.rel_of_pairwise_cons h hz
  rw [Bool.eq_iff_iff, keep_iff, keep_iff]
  constructor
  · rintro (h1 | ⟨h1, h2⟩)
    · exact .inl h1
    · exact .inr ⟨h1, fun y hy => h2 y (List.mem_cons_of_mem _ hy)⟩
  · rintro (h1 | ⟨h1, h2⟩)
    · exact .inl h1
    · refine .inr ⟨h1, fun y hy hc => ?_⟩
      rcases List.mem_cons.1 hy with rfl | hy
      · have := srt_at hb hc.1.symm; omega
      · exact h2 y hy hc
theorem need_filter (t : Nat) : ∀ (g : List Vr), Srt g → (∀ x ∈ g, ∀ y ∈ g, x.key.toList = y.key.toList) → needL t g = g.filter (keepB t g)
  | [], _, _ => rfl
  | [x], _, _ => by
    unfold needL
    simp only [dropOld]
    by_cases hx : x.gone = true ∧ x.at_ ≤ t
    · rw [if_pos hx, List.filter_cons_of_neg, List.filter_nil]
      rw [keep_iff]
      rintro (h | ⟨h, _⟩)
      · omega
      · rw [hx.1] at h; cases h
    · rw [if_neg hx, List.filter_cons_of_pos, List.filter_nil]
      rw [keep_iff]
      by_cases h1 : t < x.at_
      · exact .inl h1
      · refine .inr ⟨?_, fun y hy hc => ?_⟩
        · cases hg : x.gone
          · rfl
          · exact absurd ⟨hg, by omega⟩ hx
        · obtain rfl := List.mem_singleton.1 hy
          omega
  | x :: y :: r, h, hk => by
    obtain ⟨hx, hr⟩ := List.pairwise_cons.1 h
    have hkr : ∀ a ∈ y :: r, ∀ b ∈ y :: r, a.key.toList = b.key.toList := fun a ha b hb => hk a (List.mem_cons_of_mem _ ha) b (List.mem_cons_of_mem _ hb)
    have hxy := srt_at (hx y (by simp)) (hk y (by simp) x (by simp))
    have htail : (y :: r).filter (keepB t (x :: y :: r)) = (y :: r).filter (keepB t (y :: r)) := List.filter_congr (keep_cons h)
    by_cases hy : y.at_ ≤ t
    · have e : needL t (x :: y :: r) = needL t (y :: r) := by unfold needL; simp only [dropOld, if_pos hy]
      have hn : ¬ keepB t (x :: y :: r) x = true := by
        rw [keep_iff]
        rintro (h1 | ⟨_, h2⟩)
        · omega
        · exact h2 y (by simp) ⟨hk y (by simp) x (by simp), hxy, hy⟩
      rw [e, need_filter t (y :: r) hr hkr]
      exact ((List.filter_cons_of_neg hn).trans htail).symm
    · have hall : ∀ z ∈ y :: r, t < z.at_ := fun z hz => by
        rcases List.mem_cons.1 hz with rfl | hz
        · omega
        · have := srt_at (List.rel_of_pairwise_cons hr hz) (hkr z (List.mem_cons_of_mem _ hz) y (by simp))
          omega
      have hself : (y :: r).filter (keepB t (x :: y :: r)) = y :: r := List.filter_eq_self.2 (fun z hz => keep_iff.2 (.inl (hall z hz)))
      have e : needL t (x :: y :: r) = if x.gone = true ∧ x.at_ ≤ t then y :: r else x :: y :: r := by unfold needL; simp only [dropOld, if_neg hy]
      rw [e]
      by_cases hg : x.gone = true ∧ x.at_ ≤ t
      · rw [if_pos hg, List.filter_cons_of_neg, hself]
        rw [keep_iff]
        rintro (h1 | ⟨h1, _⟩)
        · omega
        · rw [hg.1] at h1; cases h1
      · rw [if_neg hg, List.filter_cons_of_pos, hself]
        rw [keep_iff]
        by_cases h1 : t < x.at_
        · exact .inl h1
        · refine .inr ⟨?_, fun z hz hc => ?_⟩
          · cases hgg : x.gone
            · rfl
            · exact absurd ⟨hgg, by omega⟩ hg
          · rcases List.mem_cons.1 hz with rfl | hz
            · omega
            · have := hall z hz; omega
/-- keeping looks at the key's own versions alone -/
theorem keep_sub {t : Nat} {l g : List Vr} {x : Vr} (h1 : ∀ y ∈ g, y ∈ l) (h2 : ∀ y ∈ l, y.key.toList = x.key.toList → y ∈ g) : keepB t l x = keepB t g x := by
  rw [Bool.eq_iff_iff, keep_iff, keep_iff]
  constructor
  · rintro (h | ⟨h, h3⟩)
    · exact .inl h
    · exact .inr ⟨h, fun y hy => h3 y (h1 y hy)⟩
  · rintro (h | ⟨h, h3⟩)
    · exact .inl h
    · exact .inr ⟨h, fun y hy hc => h3 y (h2 y hy hc.1) hc⟩
theorem sweep_filter (t : Nat) : ∀ (f s : Nat) (l : List Vr), l.length ≤ f → Srt l → sweepG t (gpsOf s l) = l.filter (keepB t l) := by
  intro f
  induction f with
  | zero => intro s l h _; rw [List.eq_nil_of_length_eq_zero (Nat.le_zero.1 h)]; rfl
  | succ f ih =>
    intro s l h hs
    cases l with
    | nil => rfl
    | cons x r =>
      rw [gpsOf_cons]
      obtain ⟨w1, w2⟩ := srt_while hs
      have hsp := List.takeWhile_append_dropWhile (p := sameK x.key) (l := r)
      have hdl := dropWhile_len (sameK x.key) r
      have ht : ∀ y ∈ r.takeWhile (sameK x.key), y.key.toList = x.key.toList := fun y hy => by
        rw [w1] at hy; exact sameK_iff.1 (List.mem_filter.1 hy).2
      have hd : ∀ y ∈ r.dropWhile (sameK x.key), ¬ y.key.toList = x.key.toList := fun y hy e => by
        rw [w2] at hy
        have := (List.mem_filter.1 hy).2
        rw [sameK_iff.2 e] at this; cases this
      generalize r.takeWhile (sameK x.key) = tw at *
      generalize r.dropWhile (sameK x.key) = dw at *
      clear w1 w2
      subst hsp
      have hs' := hs
      unfold Srt at hs'
      rw [← List.cons_append, List.pairwise_append] at hs'
      obtain ⟨p1, p2, _⟩ := hs'
      have e1 : sweepG t ((s, x :: tw) :: gpsOf (s + 1 + tw.length) dw) = needL t (x :: tw) ++ sweepG t (gpsOf (s + 1 + tw.length) dw) := by
        unfold sweepG; rw [List.flatMap_cons]
      have hkey : ∀ y ∈ x :: tw, y.key.toList = x.key.toList := fun y hy => by
        rcases List.mem_cons.1 hy with rfl | hy
        · rfl
        · exact ht y hy
      rw [e1, ih _ dw (by simp at h; omega) p2, need_filter t (x :: tw) p1 (fun a ha b hb => (hkey a ha).trans (hkey b hb).symm), ← List.cons_append, List.filter_append]
      congr 1
      · refine List.filter_congr (fun y hy => (keep_sub (fun z hz => List.mem_append_left _ hz) (fun z hz e => ?_)).symm)
        rcases List.mem_append.1 hz with h1 | h1
        · exact h1
        · exact absurd (e.trans (hkey y hy)) (hd z h1)
      · refine List.filter_congr (fun y hy => (keep_sub (fun z hz => List.mem_append_right _ hz) (fun z hz e => ?_)).symm)
        rcases List.mem_append.1 hz with h1 | h1
        · exact absurd (e.symm.trans (hkey z h1)) (hd y hy)
        · exact h1
theorem good_iff {low : Nat} {l : List Vr} : goodB low l = true ↔ l.length ≤ 4096 ∧ low ≤ 2305843009213693952 ∧ (∀ x ∈ l, rightB x = true) ∧ Srt l := by
  constructor
  · intro h
    have := goodB_iff.1 h
    exact ⟨this.1, this.2.1, fun x hx => good_at h hx, good_srt h⟩
  · rintro ⟨h1, h2, h3, h4⟩
    refine goodB_iff.2 ⟨h1, h2, fun i hi => ?_⟩
    unfold okAt
    have hg : ∀ j (hj : j < l.length), l.getD j Vr0 = l[j] := fun j hj => by rw [List.getD_eq_getElem?_getD, List.getElem?_eq_getElem hj]; rfl
    rw [Bool.and_eq_true, Bool.or_eq_true, decide_eq_true_eq]
    refine ⟨by rw [hg i hi]; exact h3 _ (List.getElem_mem hi), ?_⟩
    by_cases h0 : i = 0
    · exact .inl h0
    · refine .inr ?_
      rw [hg i hi, hg (i - 1) (by omega)]
      exact List.pairwise_iff_getElem.1 h4 (i - 1) i (by omega) hi (by omega)
/-- what is left of good versions is good -/
theorem good_sub {low low' : Nat} {l : List Vr} (h : goodB low l = true) (hl : low' ≤ 2305843009213693952) (p : Vr → Bool) : goodB low' (l.filter p) = true := by
  obtain ⟨h1, _, h3, h4⟩ := good_iff.1 h
  refine good_iff.2 ⟨Nat.le_trans (List.length_filter_le _ _) h1, hl, fun x hx => h3 x (List.mem_filter.1 hx).1, ?_⟩
  unfold Srt
  exact h4.sublist List.filter_sublist
end Go.Proofs.YtlkmcbelmldleaaGreat

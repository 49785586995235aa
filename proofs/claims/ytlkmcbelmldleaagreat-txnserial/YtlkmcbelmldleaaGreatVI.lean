/- what the groups of sorted versions are -/
import Derived.Test.YtlkmcbelmldleaaGreatVH
import Derived.Test.YtlkmcbelmldleaaGreatVD
namespace Go.Proofs.YtlkmcbelmldleaaGreat
open Go.RowKit
set_option maxRecDepth 40000
theorem less_trans : ∀ a b c : List UInt8, Op.bytesLess a b = true → Op.bytesLess b c = true → Op.bytesLess a c = true
  | _, [], [], _, h => by simp [Op.bytesLess] at h
  | _, _ :: _, [], _, h => by simp [Op.bytesLess] at h
  | [], [], _ :: _, h, _ => by simp [Op.bytesLess] at h
  | _ :: _, [], _ :: _, h, _ => by simp [Op.bytesLess] at h
  | [], _ :: _, _ :: _, _, _ => by simp [Op.bytesLess]
  | x :: r, y :: s, z :: q, h1, h2 => by
    simp only [Op.bytesLess, Bool.or_eq_true, Bool.and_eq_true, decide_eq_true_eq, beq_iff_eq] at h1 h2 ⊢
    rcases h1 with h1 | ⟨rfl, h1⟩
    · rcases h2 with h2 | ⟨rfl, _⟩
      · exact .inl (by rw [UInt8.lt_iff_toNat_lt] at *; omega)
      · exact .inl h1
    · rcases h2 with h2 | ⟨rfl, h2⟩
      · exact .inl h2
      · exact .inr ⟨rfl, less_trans r s q h1 h2⟩
theorem behind_trans {x y z : Vr} (h1 : behindB x y = true) (h2 : behindB y z = true) : behindB x z = true := by
  unfold behindB at *
  simp only [Bool.or_eq_true, Bool.and_eq_true, decide_eq_true_eq] at *
  rcases h1 with h1 | ⟨e1, h1⟩
  · rcases h2 with h2 | ⟨e2, _⟩
    · exact .inl (less_trans _ _ _ h1 h2)
    · exact .inl (e2 ▸ h1)
  · rcases h2 with h2 | ⟨e2, h2⟩
    · exact .inl (e1 ▸ h2)
    · exact .inr ⟨e1.trans e2, by omega⟩
/-- versions stand as they should -/
def Srt (l : List Vr) : Prop := l.Pairwise (fun x y => behindB x y = true)
theorem pair_step {R : Vr → Vr → Prop} (ht : ∀ {x y z}, R x y → R y z → R x z) : ∀ (l : List Vr), (∀ i, i + 1 < l.length → R (l.getD i Vr0) (l.getD (i + 1) Vr0)) → l.Pairwise R := by
  intro l
  induction l with
  | nil => intro _; exact List.Pairwise.nil
  | cons x r ih =>
    intro h
    have hr := ih (fun i hi => by have := h (i + 1) (by simpa using hi); simpa using this)
    refine List.Pairwise.cons ?_ hr
    intro y hy
    cases r with
    | nil => cases hy
    | cons z q =>
      have h0 : R x z := by have := h 0 (by simp); simpa using this
      rcases List.mem_cons.1 hy with rfl | hy
      · exact h0
      · exact ht h0 (List.rel_of_pairwise_cons hr hy)
theorem good_srt {low : Nat} {l : List Vr} (h : goodB low l = true) : Srt l := by
  refine pair_step (R := fun x y => behindB x y = true) behind_trans l (fun i hi => ?_)
  have := (goodB_iff.1 h).2.2 (i + 1) hi
  unfold okAt at this
  simp only [Bool.and_eq_true, Bool.or_eq_true, decide_eq_true_eq] at this
  rcases this.2 with h | h
  · omega
  · simpa using h
theorem behind_key {x y : Vr} (h : behindB x y = true) : Op.bytesLess y.key.toList x.key.toList = false := by
  rw [behind_not] at h
  cases hb : Op.bytesLess y.key.toList x.key.toList
  · rfl
  · rw [hb] at h; simp at h
theorem sameK_iff {k : ByteArray} {x : Vr} : sameK k x = true ↔ x.key.toList = k.toList := by unfold sameK; simp
/-- of sorted versions those of the first one's key stand together -/
theorem srt_while {x : Vr} {r : List Vr} (h : Srt (x :: r)) : r.takeWhile (sameK x.key) = r.filter (sameK x.key) ∧ r.dropWhile (sameK x.key) = r.filter (fun y => !sameK x.key y) := by
  induction r with
  | nil => exact ⟨rfl, rfl⟩
  | cons y q ih =>
    obtain ⟨hx, hr⟩ := List.pairwise_cons.1 h
    obtain ⟨hy, hq⟩ := List.pairwise_cons.1 hr
    cases hs : sameK x.key y
    · have hno : ∀ z ∈ q, sameK x.key z = false := fun z hz => by
        cases hz' : sameK x.key z
        · rfl
        · have e := sameK_iff.1 hz'
          have h1 := behind_key (hy z hz)
          rw [e] at h1
          have h2 := behind_key (hx y (by simp))
          have := less_tri _ _ h1 h2
          rw [sameK_iff.2 this.symm] at hs; cases hs
      rw [List.takeWhile_cons_of_neg (by simp [hs]), List.dropWhile_cons_of_neg (by simp [hs]), List.filter_cons_of_neg (by simp [hs]), List.filter_cons_of_pos (by simp [hs])]
      refine ⟨(List.filter_eq_nil_iff.2 (fun z hz => by simp [hno z hz])).symm, ?_⟩
      rw [List.filter_eq_self.2 (fun z hz => by simp [hno z hz])]
    · have hq' := ih (List.pairwise_cons.2 ⟨fun z hz => hx z (by simp [hz]), hq⟩)
      rw [List.takeWhile_cons_of_pos hs, List.dropWhile_cons_of_pos hs, List.filter_cons_of_pos hs, List.filter_cons_of_neg (by simp [hs]), hq'.1, hq'.2]
      exact ⟨rfl, rfl⟩
/-- each group lies where its place says -/
theorem gps_lies (L : List Vr) : ∀ (f s : Nat), (L.drop s).length ≤ f → s ≤ L.length → ∀ g ∈ gpsOf s (L.drop s), g.2 = (L.drop g.1).take g.2.length ∧ g.1 + g.2.length ≤ L.length ∧ 0 < g.2.length := by
  intro f
  induction f with
  | zero =>
    intro s hf _ g hg
    rw [List.eq_nil_of_length_eq_zero (Nat.le_zero.1 hf), gpsOf_nil] at hg
    cases hg
  | succ f ih =>
    intro s hf hs g hg
    by_cases hl : s < L.length
    · rw [drop_getD L s hl, gpsOf_cons] at hg
      have hw := List.takeWhile_append_dropWhile (p := sameK (L.getD s Vr0).key) (l := L.drop (s + 1))
      generalize ht : (L.drop (s + 1)).takeWhile (sameK (L.getD s Vr0).key) = tw at *
      generalize hd' : (L.drop (s + 1)).dropWhile (sameK (L.getD s Vr0).key) = dw at *
      have htw : tw = (L.drop (s + 1)).take tw.length := by rw [← hw]; simp
      have hdw : dw = L.drop (s + 1 + tw.length) := by rw [← List.drop_drop, ← hw]; simp
      have hlen : s + 1 + tw.length + dw.length = L.length := by
        have := congrArg List.length hw
        rw [List.length_append, List.length_drop] at this
        omega
      rcases List.mem_cons.1 hg with rfl | hg
      · refine ⟨?_, by simp; omega, by simp⟩
        dsimp only
        rw [drop_getD L s hl, List.length_cons, List.take_succ_cons, ← htw]
      · rw [hdw] at hg
        exact ih _ (by rw [← hdw]; rw [List.length_drop] at hf; omega) (by omega) g hg
    · rw [List.drop_of_length_le (by omega), gpsOf_nil] at hg
      cases hg
theorem Srt.filter {l : List Vr} (h : Srt l) (p : Vr → Bool) : Srt (l.filter p) := List.Pairwise.filter p h
/-- the groups of sorted versions that have a key: those versions, or none -/
theorem gps_key (key : ByteArray) : ∀ (f s : Nat) (l : List Vr), l.length ≤ f → Srt l →
    (l.filter (sameK key) = [] ∧ (gpsOf s l).filter (fun g => (hd g).key.toList == key.toList) = []) ∨ (l.filter (sameK key) ≠ [] ∧ ∃ s', (gpsOf s l).filter (fun g => (hd g).key.toList == key.toList) = [(s', l.filter (sameK key))]) := by
  intro f
  induction f with
  | zero =>
    intro s l hf _
    obtain rfl : l = [] := List.eq_nil_of_length_eq_zero (Nat.le_zero.1 hf)
    exact .inl ⟨rfl, rfl⟩
  | succ f ih =>
    intro s l hf hs
    cases l with
    | nil => exact .inl ⟨rfl, rfl⟩
    | cons x r =>
      obtain ⟨h1, h2⟩ := srt_while hs
      rw [gpsOf_cons, h1, h2]
      have hlen : (r.filter (fun y => !sameK x.key y)).length ≤ f := Nat.le_trans (List.length_filter_le _ _) (by simpa using hf)
      have hsr : Srt (r.filter (fun y => !sameK x.key y)) := Srt.filter (List.pairwise_cons.1 hs).2 _
      have hi := ih (s + 1 + (r.filter (sameK x.key)).length) _ hlen hsr
      have hff : (r.filter (fun y => !sameK x.key y)).filter (sameK key) = r.filter (fun y => sameK key y && !sameK x.key y) := by rw [List.filter_filter]
      cases hk : (x.key.toList == key.toList)
      · have ne : ¬ x.key.toList = key.toList := by simpa using hk
        have e1 : (x :: r).filter (sameK key) = (r.filter (fun y => !sameK x.key y)).filter (sameK key) := by
          rw [List.filter_cons_of_neg (by rw [sameK_iff]; exact ne), hff]
          refine List.filter_congr (fun y _ => ?_)
          cases hy : sameK key y
          · simp
          · cases hz : sameK x.key y
            · simp
            · exact absurd ((sameK_iff.1 hz).symm.trans (sameK_iff.1 hy)) ne
        rw [e1, List.filter_cons_of_neg (by show ¬ (x.key.toList == key.toList) = true; rw [hk]; simp)]
        exact hi
      · have e : x.key.toList = key.toList := by simpa using hk
        have e2 : ∀ y, sameK x.key y = sameK key y := fun y => by unfold sameK; rw [e]
        have e1 : (x :: r).filter (sameK key) = x :: r.filter (sameK x.key) := by
          rw [List.filter_cons_of_pos (by rw [sameK_iff]; exact e)]
          congr 1
          exact List.filter_congr (fun y _ => (e2 y).symm)
        right
        refine ⟨by rw [e1]; simp, s, ?_⟩
        have hnil : (r.filter (fun y => !sameK x.key y)).filter (sameK key) = [] := by
          rw [hff, List.filter_eq_nil_iff]
          intro y _
          rw [e2]
          cases sameK key y <;> simp
        rw [e1, List.filter_cons_of_pos (by show (x.key.toList == key.toList) = true; exact hk)]
        rcases hi with ⟨_, h⟩ | ⟨h, _⟩
        · rw [h]
        · exact absurd hnil h
theorem IsV.sub {w : World} {b off len cap : Nat} {l : List Vr} (h : IsV w (some ⟨b, off, none⟩) len cap l) (s m : Nat) (hs : s + m ≤ len) : IsV w (some ⟨b, off + s * 4, none⟩) m (cap - s) ((l.drop s).take m) := by
  have h1 := h.1
  have h2 := h.2.1
  have h3 := h.2.2.1
  refine ⟨by rw [List.length_take, List.length_drop]; omega, by omega, by omega, fun i hi => ?_⟩
  obtain ⟨b', off', e, hlt, z0, z1, z2, z3⟩ := h.2.2.2 (s + i) (by omega)
  cases e
  have e2 : ((l.drop s).take m).getD i Vr0 = l.getD (s + i) Vr0 := by
    rw [List.getD_eq_getElem?_getD, List.getElem?_take_of_lt hi, List.getElem?_drop, ← List.getD_eq_getElem?_getD]
  rw [e2]
  exact ⟨b, _, rfl, hlt, by rw [← z0]; congr 2; omega, by rw [← z1]; congr 2; omega, by rw [← z2]; congr 2; omega, by rw [← z3]; congr 2; omega⟩
/-- what Get answers -/
def getR (low : Nat) (l : List Vr) (key : ByteArray) (t : Nat) : ByteArray × Bool × Int :=
  if askE low l t = 0 then ((seenR (lastTo (l.filter (sameK key)) t)).1, (seenR (lastTo (l.filter (sameK key)) t)).2, 0) else (⟨#[]⟩, false, askE low l t)
theorem ask_good {low : Nat} {l : List Vr} {t : Nat} (h : askE low l t = 0) : goodB low l = true := by
  unfold askE at h
  by_cases hg : goodB low l = true
  · exact hg
  · rw [if_neg hg] at h; cases h
end Go.Proofs.YtlkmcbelmldleaaGreat

/- what versions are behind a write -/
import Derived.Test.YtlkmcbelmldleaaGreatVYa
namespace Go.Proofs.YtlkmcbelmldleaaGreat
open Go.RowKit
set_option maxRecDepth 40000
theorem srt_perm {a b : List Vr} (ha : Srt a) (hb : Srt b) (hp : a.Perm b) : a = b :=
  hp.eq_of_pairwise (le := fun x y => behindB x y = true) (fun x y _ _ h1 h2 => by rw [behind_anti h1] at h2; cases h2) ha hb
def keyW (key : ByteArray) (x : Wt) : Bool := x.key.toList == key.toList
/-- what is written to a key -/
def writ (ws : List Wt) (key : ByteArray) : Option Wt := ws.find? (keyW key)
theorem filter_find {key : ByteArray} : ∀ {ws : List Wt}, ws.Pairwise (fun a b => a.key.toList ≠ b.key.toList) → ws.filter (keyW key) = (writ ws key).toList
  | [], _ => rfl
  | x :: r, h => by
    obtain ⟨h1, h2⟩ := List.pairwise_cons.1 h
    unfold writ
    cases hx : keyW key x
    · rw [List.filter_cons_of_neg (by simp [hx]), List.find?_cons_of_neg (by simp [hx])]
      exact filter_find h2
    · rw [List.filter_cons_of_pos hx, List.find?_cons_of_pos hx]
      have : r.filter (keyW key) = [] := List.filter_eq_nil_iff.2 (fun y hy hk => by
        unfold keyW at hx hk
        exact h1 y hy ((by simpa using hx : x.key.toList = key.toList).trans (by simpa using hk : y.key.toList = key.toList).symm))
      rw [this]
      rfl
theorem nodup_pair {ws : List Wt} (h : twiceB ws = false) : ws.Pairwise (fun a b => a.key.toList ≠ b.key.toList) := by
  unfold twiceB at h
  have : (ws.map (fun x => x.key.toList)).Nodup := by simpa using h
  exact List.pairwise_map.1 this
theorem late_lt {t : Nat} {l : List Vr} (h : l.any (lateB t) = false) {x : Vr} (hx : x ∈ l) : x.at_ < t := by
  have := List.any_eq_false.1 h x hx
  unfold lateB at this
  simpa using this
theorem put_srt {low : Nat} {l : List Vr} {ws : List Wt} {t : Nat} (h : refE low l ws t = 0) : Srt (putL t l ws) ∧ (putL t l ws).Perm (l ++ ws.map (vOf t)) := by
  obtain ⟨h1, _, _, h4, _, _, h7, _⟩ := ref_zero h
  exact putL_good t ws l (good_srt h1) (fun y hy _ _ _ => late_lt h7 hy) (by unfold twiceB at h4; simpa using h4)
theorem put_filter {low : Nat} {l : List Vr} {ws : List Wt} {t : Nat} (h : refE low l ws t = 0) (key : ByteArray) : (putL t l ws).filter (sameK key) = l.filter (sameK key) ++ ((writ ws key).toList.map (vOf t)) := by
  obtain ⟨h1, _, _, h4, _, _, h7, _⟩ := ref_zero h
  obtain ⟨k1, k2⟩ := put_srt h
  rw [← filter_find (nodup_pair h4)]
  refine srt_perm (k1.sublist List.filter_sublist) ?_ ?_
  · unfold Srt
    rw [List.pairwise_append]
    refine ⟨(good_srt h1).sublist List.filter_sublist, ?_, fun x hx y hy => ?_⟩
    · rw [List.pairwise_map]
      refine List.Pairwise.imp_of_mem ?_ ((nodup_pair h4).sublist List.filter_sublist)
      intro a b ha hb hne
      have e1 := (List.mem_filter.1 ha).2
      have e2 := (List.mem_filter.1 hb).2
      unfold keyW at e1 e2
      exact absurd ((by simpa using e1 : a.key.toList = key.toList).trans (by simpa using e2 : b.key.toList = key.toList).symm) hne
    · obtain ⟨x1, x2⟩ := List.mem_filter.1 hx
      obtain ⟨z, hz, rfl⟩ := List.mem_map.1 hy
      have e2 := (List.mem_filter.1 hz).2
      unfold keyW at e2
      have e : x.key.toList = z.key.toList := (sameK_iff.1 x2).trans (by simpa using e2 : z.key.toList = key.toList).symm
      have := late_lt h7 x1
      unfold behindB vOf
      simp [e, this]
  · refine (k2.filter (sameK key)).trans ?_
    rw [List.filter_append, List.filter_map]
    exact List.Perm.refl _
theorem put_good {low : Nat} {l : List Vr} {ws : List Wt} {t : Nat} (h : refE low l ws t = 0) : goodB low (putL t l ws) = true := by
  obtain ⟨h1, _, h3, _, h5, _, _, h8⟩ := ref_zero h
  obtain ⟨k1, k2⟩ := put_srt h
  obtain ⟨_, g2, g3, _⟩ := good_iff.1 h1
  refine good_iff.2 ⟨by rw [k2.length_eq, List.length_append, List.length_map]; exact h8, g2, fun x hx => ?_, k1⟩
  rcases List.mem_append.1 (k2.mem_iff.1 hx) with hx | hx
  · exact g3 x hx
  · obtain ⟨z, hz, rfl⟩ := List.mem_map.1 hx
    have := List.any_eq_false.1 h3 z hz
    unfold longB at this
    simp only [Bool.or_eq_true, decide_eq_true_eq, not_or] at this
    unfold rightB vOf
    dsimp only
    rw [h5]
    cases hg : z.gone
    · simp; omega
    · have q1 : decide (z.key.size ≤ 256) = true := decide_eq_true (by omega)
      have q2 : (⟨#[]⟩ : ByteArray).toList = [] := by rw [ByteArray.toList_eq]
      rw [if_pos rfl, q1, q2]
      rfl
theorem lastTo_all {q : List Vr} {t t' : Nat} (h : ∀ x ∈ q, x.at_ ≤ t) (h' : ∀ x ∈ q, x.at_ ≤ t') : lastTo q t = lastTo q t' := by
  unfold lastTo
  have hr : ∀ x ∈ q.reverse, x.at_ ≤ t ∧ x.at_ ≤ t' := fun x hx => ⟨h x (List.mem_reverse.1 hx), h' x (List.mem_reverse.1 hx)⟩
  cases hq : q.reverse with
  | nil => rfl
  | cons x r =>
    rw [hq] at hr
    have := hr x (by simp)
    rw [List.find?_cons_of_pos (by simp [this.1]), List.find?_cons_of_pos (by simp [this.2])]
theorem lastTo_skip {q : List Vr} {z : Vr} {t : Nat} (h : ¬ z.at_ ≤ t) : lastTo (q ++ [z]) t = lastTo q t := by
  unfold lastTo
  simp [h]
theorem getR_good {low : Nat} {l : List Vr} {key : ByteArray} {t : Nat} (h : goodB low l = true) (ht : ¬ t < low) : getR low l key t = ((seenR (lastTo (l.filter (sameK key)) t)).1, (seenR (lastTo (l.filter (sameK key)) t)).2, 0) := by
  unfold getR askE
  rw [if_pos h, if_neg ht, if_pos rfl]
theorem past_before {low : Nat} {l : List Vr} {ws : List Wt} {t : Nat} (h : refE low l ws t = 0) (key : ByteArray) {ask : Nat} (ha : ask < t) : getR low (putL t l ws) key ask = getR low l key ask := by
  obtain ⟨h1, _⟩ := ref_zero h
  have hu := put_good h
  by_cases hl : ask < low
  · unfold getR askE
    rw [if_pos hu, if_pos h1, if_pos hl]
    rfl
  · rw [getR_good hu hl, getR_good h1 hl, put_filter h]
    cases hw : writ ws key with
    | none => simp
    | some z =>
      rw [show ((some z).toList.map (vOf t)) = [vOf t z] from rfl, lastTo_skip (by show ¬ t ≤ ask; omega)]
end Go.Proofs.YtlkmcbelmldleaaGreat

/- what a scan finds, place by place -/
import Derived.Test.YtlkmcbelmldleaaGreatVYb
namespace Go.Proofs.YtlkmcbelmldleaaGreat
open Go.RowKit
set_option maxRecDepth 40000
/-- what a scan finds at a version whose key is new -/
def item (L : List Vr) (fr to : ByteArray) (t : Nat) (x : Vr) : Option Pr := if (seenR (lastTo (L.filter (sameK x.key)) t)).2 = true ∧ inSpan fr to x.key = true then some ⟨x.key, (seenR (lastTo (L.filter (sameK x.key)) t)).1⟩ else none
/-- what a scan finds from a place on, behind a key -/
def scanF (L : List Vr) (fr to : ByteArray) (t : Nat) : Option (List UInt8) → List Vr → List Pr
  | _, [] => []
  | p, x :: r => if p = some x.key.toList then scanF L fr to t (some x.key.toList) r else (item L fr to t x).toList ++ scanF L fr to t (some x.key.toList) r
theorem scan_same (L : List Vr) (fr to : ByteArray) (t : Nat) (K : List UInt8) (dw : List Vr) : ∀ tw : List Vr, (∀ y ∈ tw, y.key.toList = K) → scanF L fr to t (some K) (tw ++ dw) = scanF L fr to t (some K) dw
  | [], _ => rfl
  | x :: r, h => by
    have hx : x.key.toList = K := h x (by simp)
    rw [List.cons_append, scanF, hx, if_pos rfl]
    exact scan_same L fr to t K dw r (fun y hy => h y (List.mem_cons_of_mem _ hy))
theorem scan_fresh (L : List Vr) (fr to : ByteArray) (t : Nat) (K : List UInt8) (dw : List Vr) (h : ∀ y ∈ dw, ¬ y.key.toList = K) : scanF L fr to t (some K) dw = scanF L fr to t none dw := by
  cases dw with
  | nil => rfl
  | cons x r =>
    have hx := h x (by simp)
    rw [scanF, scanF, if_neg (fun e => hx (Option.some.inj e).symm), if_neg (by simp)]
theorem scan_places (L : List Vr) (fr to : ByteArray) (t : Nat) : ∀ (f s : Nat) (l : List Vr), l.length ≤ f → Srt l → (∀ x ∈ l, l.filter (sameK x.key) = L.filter (sameK x.key)) → scanG t ((gpsOf s l).filter (fun g => inSpan fr to (hd g).key)) = scanF L fr to t none l := by
  intro f
  induction f with
  | zero => intro s l h _ _; rw [List.eq_nil_of_length_eq_zero (Nat.le_zero.1 h)]; rfl
  | succ f ih =>
    intro s l h hs hL
    cases l with
    | nil => rfl
    | cons x r =>
      have hLx := hL x (by simp)
      rw [gpsOf_cons]
      obtain ⟨w1, w2⟩ := srt_while hs
      have hsp := List.takeWhile_append_dropWhile (p := sameK x.key) (l := r)
      have hdl := dropWhile_len (sameK x.key) r
      have ht : ∀ y ∈ r.takeWhile (sameK x.key), y.key.toList = x.key.toList := fun y hy => by
        rw [w1] at hy; exact sameK_iff.1 (List.mem_filter.1 hy).2
      have hd' : ∀ y ∈ r.dropWhile (sameK x.key), ¬ y.key.toList = x.key.toList := fun y hy e => by
        rw [w2] at hy
        have := (List.mem_filter.1 hy).2
        rw [sameK_iff.2 e] at this; cases this
      have hg : x :: r.takeWhile (sameK x.key) = L.filter (sameK x.key) := by
        rw [← hLx, List.filter_cons_of_pos (sameK_iff.2 rfl), w1]
      generalize r.takeWhile (sameK x.key) = tw at *
      generalize r.dropWhile (sameK x.key) = dw at *
      clear w1 w2 hLx
      subst hsp
      have hs' := hs
      unfold Srt at hs'
      rw [← List.cons_append, List.pairwise_append] at hs'
      obtain ⟨_, p2, _⟩ := hs'
      have hih := ih (s + 1 + tw.length) dw (by simp at h; omega) p2 (fun y hy => by
        rw [← hL y (by simp [hy]), ← List.cons_append, List.filter_append]
        have : (x :: tw).filter (sameK y.key) = [] := List.filter_eq_nil_iff.2 (fun z hz hk => by
          have e := sameK_iff.1 hk
          rcases List.mem_cons.1 hz with rfl | hz
          · exact hd' y hy e.symm
          · exact hd' y hy (e.symm.trans (ht z hz)))
        rw [this, List.nil_append])
      have hrhs : scanF L fr to t none (x :: (tw ++ dw)) = (item L fr to t x).toList ++ scanF L fr to t none dw := by
        rw [scanF, if_neg (by simp), scan_same L fr to t _ dw tw ht, scan_fresh L fr to t _ dw hd']
      rw [hrhs, ← hih]
      have hhd : hd (s, x :: tw) = x := rfl
      unfold item
      rw [← hg]
      by_cases h2 : inSpan fr to x.key = true
      · rw [List.filter_cons_of_pos (by rw [hhd]; exact h2)]
        unfold scanG
        rw [List.filterMap_cons]
        dsimp only
        rw [hhd]
        by_cases h1 : (seenR (lastTo (x :: tw) t)).2 = true
        · rw [if_pos h1, if_pos ⟨h1, h2⟩]; rfl
        · rw [if_neg h1, if_neg (fun h => h1 h.1)]; rfl
      · rw [List.filter_cons_of_neg (by rw [hhd]; exact h2), if_neg (fun h => h2 h.2)]
        rfl
/-- what a scan answers, place by place -/
theorem scanR_good {low : Nat} {l : List Vr} {fr to : ByteArray} {t : Nat} (h : goodB low l = true) (ht : ¬ t < low) : scanR low l fr to t = (scanF l fr to t none l, 0) := by
  have e : askE low l t = 0 := by unfold askE; rw [if_pos h, if_neg ht]
  unfold scanR
  rw [if_pos e, scan_places l fr to t l.length 0 l (Nat.le_refl _) (good_srt h) (fun _ _ => rfl)]
/-- the key ahead of a place -/
def prevK (l : List Vr) : Nat → Option (List UInt8)
  | 0 => none
  | k + 1 => some (l.getD k Vr0).key.toList
end Go.Proofs.YtlkmcbelmldleaaGreat

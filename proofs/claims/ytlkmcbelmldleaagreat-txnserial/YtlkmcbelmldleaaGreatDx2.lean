/- Sf Ap -/
import Derived.Test.YtlkmcbelmldleaaGreatDx1
import Derived.Test.YtlkmcbelmldleaaGreatVLawSteps
import Derived.Test.YtlkmcbelmldleaaGreatVYd
/- Do, the other kinds; whatever the kind -/
namespace Go.Proofs.YtlkmcbelmldleaaGreat
open Go.RowKit
open Go.Maps (Keyed has size)
set_option maxRecDepth 40000
set_option linter.unusedVariables false
/-- what a step makes of a manager -/
def mDo (ms : Mg) (k : Nat) (t : Int) (key to val : ByteArray) : Mg :=
  if k = 1 then (mBegin ms).1 else if k = 2 then (mGet ms t key).1 else if k = 3 then (mScan ms t key to).1 else if k = 4 then (mWrite ms t ⟨key, val, false⟩).1
  else if k = 5 then (mWrite ms t ⟨key, ⟨#[]⟩, true⟩).1 else if k = 6 then (mCommit ms t).1 else if k = 7 then (mAbort ms t).1 else ms
end Go.Proofs.YtlkmcbelmldleaaGreat
/- a transaction beside others: what it sees stays -/
namespace Go.Proofs.YtlkmcbelmldleaaGreat
open Go.RowKit
set_option maxRecDepth 40000
/-- the first one is open still, and sees of a key what it saw -/
structure Ap (key : ByteArray) (R0 : ByteArray × Bool × Int) (trA : Tr) (ms : Mg) : Prop where
  fst : ms.opn[0]? = some (1, trA)
  low : ms.low = 1
  good : goodB 1 ms.vs = true
  beg : ∀ x ∈ ms.opn, 1 ≤ x.2.began
  now : 1 ≤ ms.now
  got : getR 1 ms.vs key 1 = R0
  one : trA.began = 1
theorem at_other {ms : Mg} {trA : Tr} (h : ms.opn[0]? = some (1, trA)) {t : Int} (ht : t ≠ 1) {i n : Nat} {tr : Tr} (ha : ms.at t = some (i, n, tr)) : i ≠ 0 := by
  obtain ⟨q1, q2⟩ := at_some ha
  rintro rfl
  rw [h] at q1
  simp only [Option.some.injEq, Prod.mk.injEq] at q1
  exact ht (by rw [← q2, ← q1.1]; rfl)
section
variable {key : ByteArray} {R0 : ByteArray × Bool × Int} {trA : Tr} {ms : Mg}
theorem Ap.turn (h : Ap key R0 trA ms) {i n : Nat} {tr tr' : Tr} (hi : i ≠ 0) (q : ms.opn[i]? = some (n, tr)) (hb : tr'.began = tr.began) : Ap key R0 trA (ms.turn i n tr') := by
  refine ⟨?_, h.low, h.good, fun x hx => ?_, h.now, h.got, h.one⟩
  · show (ms.opn.set i (n, tr'))[0]? = _
    rw [List.getElem?_set_ne hi]; exact h.fst
  · obtain ⟨j, hj⟩ := List.mem_iff_getElem?.1 hx
    rcases get_set (show (ms.opn.set i (n, tr'))[j]? = some x from hj) with ⟨_, e, _⟩ | ⟨_, e⟩
    · rw [e]
      show 1 ≤ tr'.began
      rw [hb]; exact h.beg _ (List.mem_of_getElem? q)
    · exact h.beg x (List.mem_of_getElem? e)
theorem Ap.begin (h : Ap key R0 trA ms) : Ap key R0 trA (mBegin ms).1 := by
  unfold mBegin
  split
  · exact h
  · refine ⟨?_, h.low, h.good, fun x hx => ?_, h.now, h.got, h.one⟩
    · show (ms.opn ++ [_])[0]? = _
      rw [List.getElem?_append_left (List.getElem?_eq_some_iff.1 h.fst).1]; exact h.fst
    · have hx' : x ∈ ms.opn ++ [(ms.last + 1, (⟨ms.now, [], []⟩ : Tr))] := hx
      rcases List.mem_append.1 hx' with hx' | hx'
      · exact h.beg x hx'
      · rw [List.mem_singleton.1 hx']; exact h.now
theorem lowOf_le (now : Nat) (os : List (Nat × Tr)) : lowOf now os ≤ now ∧ ∀ x ∈ os, lowOf now os ≤ x.2.began := by
  induction os generalizing now with
  | nil => exact ⟨Nat.le_refl _, fun x hx => by cases hx⟩
  | cons y r ih =>
    obtain ⟨h1, h2⟩ := ih (min now y.2.began)
    have e : lowOf now (y :: r) = lowOf (min now y.2.began) r := rfl
    rw [e]
    refine ⟨by omega, fun x hx => ?_⟩
    rcases List.mem_cons.1 hx with rfl | hx
    · omega
    · exact h2 x hx
theorem lowOf_ge {m : Nat} : ∀ (os : List (Nat × Tr)) (now : Nat), m ≤ now → (∀ x ∈ os, m ≤ x.2.began) → m ≤ lowOf now os
  | [], now, h, _ => h
  | y :: r, now, h, hx => lowOf_ge r (min now y.2.began) (by have := hx y (List.mem_cons_self ..); omega) (fun x hm => hx x (List.mem_cons_of_mem _ hm))
theorem Ap.ended (h : Ap key R0 trA ms) {i : Nat} (hi : i ≠ 0) : Ap key R0 trA (ms.ended i) := by
  have h0 : (ms.opn.eraseIdx i)[0]? = some (1, trA) := by
    rw [List.getElem?_eraseIdx, if_pos (by omega)]; exact h.fst
  have hbg : ∀ x ∈ ms.opn.eraseIdx i, 1 ≤ x.2.began := fun x hx => h.beg x (List.mem_of_mem_eraseIdx hx)
  have hlow : lowOf ms.now (ms.opn.eraseIdx i) = 1 := by
    have h1 := (lowOf_le ms.now (ms.opn.eraseIdx i)).2 _ (List.mem_of_getElem? h0)
    have h2 := lowOf_ge (m := 1) (ms.opn.eraseIdx i) ms.now h.now hbg
    have h3 := h.one
    dsimp only at h1
    omega
  have hs : sweepE 1 ms.vs 1 = 0 := sweepE_iff.2 ⟨h.good, by omega, by omega⟩
  have e : ms.ended i = { ms.less i with low := 1, vs := ms.vs.filter (keepB 1 ms.vs) } := by
    unfold Mg.ended
    rw [hlow, h.low, sweepR_yes hs]
    rfl
  rw [e]
  refine ⟨h0, rfl, good_sub h.good (by omega) _, hbg, h.now, ?_, h.one⟩
  obtain ⟨s, b, q1, q2⟩ := swept_get hs (by omega : ¬ 1 < 1) key
  show getR 1 (ms.vs.filter (keepB 1 ms.vs)) key 1 = R0
  rw [q2, ← h.got, q1]
theorem Ap.com (h : Ap key R0 trA ms) (tr : Tr) : Ap key R0 trA (comM ms tr) := by
  unfold comM
  split
  · exact h
  · next hn =>
    have hz : (putR ms.low ms.vs tr.ws (ms.now + 1)).2.2 = 0 := Classical.not_not.1 (fun hh => hn (.inr (.inr hh)))
    have hr : refE ms.low ms.vs tr.ws (ms.now + 1) = 0 := by
      by_cases hq : refE ms.low ms.vs tr.ws (ms.now + 1) = 0
      · exact hq
      · unfold putR at hz
        rw [if_neg hq] at hz
        exact absurd hz hq
    have e : putR ms.low ms.vs tr.ws (ms.now + 1) = (putL (ms.now + 1) ms.vs tr.ws, ms.low, 0) := by unfold putR; rw [if_pos hr]
    rw [e]
    rw [h.low] at hr
    refine ⟨h.fst, h.low, put_good hr, h.beg, by show 1 ≤ ms.now + 1; omega, ?_, h.one⟩
    show getR 1 (putL (ms.now + 1) ms.vs tr.ws) key 1 = R0
    rw [past_before hr key (by have := h.now; omega)]
    exact h.got
theorem Ap.does (h : Ap key R0 trA ms) {t : Int} (ht : t ≠ 1) (k : Nat) (ky to val : ByteArray) : Ap key R0 trA (mDo ms k t ky to val) := by
  have hw : ∀ x, Ap key R0 trA (mWrite ms t x).1 := fun x => by
    unfold mWrite
    cases ha : ms.at t with
    | none => exact h
    | some y =>
      obtain ⟨i, n, tr⟩ := y
      exact h.turn (at_other h.fst ht ha) (at_some ha).1 (wroteTr_same tr x).1
  unfold mDo
  split
  · exact h.begin
  split
  · unfold mGet
    cases ha : ms.at t with
    | none => exact h
    | some y =>
      obtain ⟨i, n, tr⟩ := y
      exact h.turn (at_other h.fst ht ha) (at_some ha).1 (by split <;> rfl)
  split
  · unfold mScan
    cases ha : ms.at t with
    | none => exact h
    | some y =>
      obtain ⟨i, n, tr⟩ := y
      dsimp only
      split
      · exact h
      · exact h.turn (at_other h.fst ht ha) (at_some ha).1 rfl
  split
  · exact hw _
  split
  · exact hw _
  split
  · unfold mCommit
    cases ha : ms.at t with
    | none => exact h
    | some y =>
      obtain ⟨i, n, tr⟩ := y
      exact (h.com tr).ended (at_other h.fst ht ha)
  split
  · unfold mAbort
    cases ha : ms.at t with
    | none => exact h
    | some y =>
      obtain ⟨i, n, tr⟩ := y
      exact h.ended (at_other h.fst ht ha)
  · exact h
end
theorem ended_nums (ms : Mg) (i : Nat) : (ms.ended i).last = ms.last ∧ (ms.ended i).now = ms.now := by
  unfold Mg.ended; split <;> exact ⟨rfl, rfl⟩
theorem comM_nums (ms : Mg) (tr : Tr) : (comM ms tr).last = ms.last ∧ (comM ms tr).now ≤ ms.now + 1 := by
  unfold comM
  split
  · exact ⟨rfl, Nat.le_succ _⟩
  · exact ⟨rfl, Nat.le_refl _⟩
theorem does_nums (ms : Mg) (k : Nat) (t : Int) (ky to val : ByteArray) : (mDo ms k t ky to val).last ≤ ms.last + 1 ∧ (mDo ms k t ky to val).now ≤ ms.now + 1 := by
  have hw : ∀ x, (mWrite ms t x).1.last ≤ ms.last + 1 ∧ (mWrite ms t x).1.now ≤ ms.now + 1 := fun x => by
    unfold mWrite
    cases ha : ms.at t with
    | none => exact ⟨Nat.le_succ _, Nat.le_succ _⟩
    | some y => exact ⟨Nat.le_succ _, Nat.le_succ _⟩
  unfold mDo
  split
  · unfold mBegin
    split
    · exact ⟨Nat.le_succ _, Nat.le_succ _⟩
    · exact ⟨Nat.le_refl _, Nat.le_succ _⟩
  split
  · unfold mGet
    cases ha : ms.at t with
    | none => exact ⟨Nat.le_succ _, Nat.le_succ _⟩
    | some y => exact ⟨Nat.le_succ _, Nat.le_succ _⟩
  split
  · unfold mScan
    cases ha : ms.at t with
    | none => exact ⟨Nat.le_succ _, Nat.le_succ _⟩
    | some y =>
      obtain ⟨i, n, tr⟩ := y
      dsimp only
      split <;> exact ⟨Nat.le_succ _, Nat.le_succ _⟩
  split
  · exact hw _
  split
  · exact hw _
  split
  · unfold mCommit
    cases ha : ms.at t with
    | none => exact ⟨Nat.le_succ _, Nat.le_succ _⟩
    | some y =>
      obtain ⟨i, n, tr⟩ := y
      have h1 := ended_nums (comM ms tr) i
      have h2 := comM_nums ms tr
      dsimp only
      rw [h1.1, h1.2]
      exact ⟨by omega, h2.2⟩
  split
  · unfold mAbort
    cases ha : ms.at t with
    | none => exact ⟨Nat.le_succ _, Nat.le_succ _⟩
    | some y =>
      obtain ⟨i, n, tr⟩ := y
      have h1 := ended_nums ms i
      dsimp only
      rw [h1.1, h1.2]
      exact ⟨Nat.le_succ _, Nat.le_succ _⟩
  · exact ⟨Nat.le_succ _, Nat.le_succ _⟩
end Go.Proofs.YtlkmcbelmldleaaGreat

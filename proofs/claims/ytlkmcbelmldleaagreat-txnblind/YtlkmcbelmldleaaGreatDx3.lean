/- Sg Sh Si Sj Sk Gd -/
import Derived.Test.YtlkmcbelmldleaaGreatDx2
import Derived.Test.YtlkmcbelmldleaaGreatDx1
import Derived.Test.YtlkmcbelmldleaaGreatCx6
import Derived.Test.YtlkmcbelmldleaaGreatCx4
/- Do: its answers -/
namespace Go.Proofs.YtlkmcbelmldleaaGreat
open Go.RowKit
open Go.Maps (Keyed has size)
set_option maxRecDepth 40000
set_option linter.unusedVariables false
end Go.Proofs.YtlkmcbelmldleaaGreat
/- Peek -/
namespace Go.Proofs.YtlkmcbelmldleaaGreat
open Go.RowKit
open Go.Maps (Keyed has size)
set_option maxRecDepth 40000
set_option linter.unusedVariables false
/-- what Peek says -/
def mPeek (ms : Mg) (t : Int) : List Wt × Bool × Int := match ms.at t with
  | none => ([], false, 11)
  | some (_, _, tr) => (tr.ws, conflB ms.vs tr, 0)
end Go.Proofs.YtlkmcbelmldleaaGreat
/- what a scan answers is one list -/
namespace Go.Proofs.YtlkmcbelmldleaaGreat
open Go.RowKit
set_option maxRecDepth 40000
/-- keys that differ -/
def Dif (l : List Pr) : Prop := l.Pairwise (fun p q => ¬ p.key.toList = q.key.toList)
theorem scan_dif (fr to : ByteArray) (t : Nat) : ∀ (f s : Nat) (l : List Vr), l.length ≤ f → Srt l → (∀ p ∈ scanG t ((gpsOf s l).filter (fun g => inSpan fr to (hd g).key)), ∃ y ∈ l, p.key = y.key) ∧ Dif (scanG t ((gpsOf s l).filter (fun g => inSpan fr to (hd g).key))) := by
  intro f
  induction f with
  | zero =>
    intro s l h _
    rw [List.eq_nil_of_length_eq_zero (Nat.le_zero.1 h)]
    exact ⟨fun p hp => (by cases hp), List.Pairwise.nil⟩
  | succ f ih =>
    intro s l h hs
    cases l with
    | nil => exact ⟨fun p hp => (by cases hp), List.Pairwise.nil⟩
    | cons x r =>
      rw [gpsOf_cons]
      obtain ⟨w1, w2⟩ := srt_while hs
      have hsp := List.takeWhile_append_dropWhile (p := sameK x.key) (l := r)
      have hd' : ∀ y ∈ r.dropWhile (sameK x.key), ¬ y.key.toList = x.key.toList := fun y hy e => by
        rw [w2] at hy
        have := (List.mem_filter.1 hy).2
        rw [sameK_iff.2 e] at this; cases this
      generalize r.takeWhile (sameK x.key) = tw at *
      generalize r.dropWhile (sameK x.key) = dw at *
      clear w1 w2
      subst hsp
      have hs' := hs
      unfold Srt at hs'
      rw [← List.cons_append, List.pairwise_append] at hs'
      obtain ⟨_, p2, _⟩ := hs'
      obtain ⟨i1, i2⟩ := ih (s + 1 + tw.length) dw (by simp at h; omega) p2
      have up : ∀ p ∈ scanG t ((gpsOf (s + 1 + tw.length) dw).filter (fun g => inSpan fr to (hd g).key)), ∃ y ∈ x :: (tw ++ dw), p.key = y.key := fun p hp => by
        obtain ⟨y, hy, e⟩ := i1 p hp
        exact ⟨y, by simp [hy], e⟩
      have hhd : hd (s, x :: tw) = x := rfl
      by_cases h2 : inSpan fr to x.key = true
      · rw [List.filter_cons_of_pos (by rw [hhd]; exact h2)]
        by_cases h1 : (seenR (lastTo (x :: tw) t)).2 = true
        · have e : scanG t ((s, x :: tw) :: (gpsOf (s + 1 + tw.length) dw).filter (fun g => inSpan fr to (hd g).key)) = ⟨x.key, (seenR (lastTo (x :: tw) t)).1⟩ :: scanG t ((gpsOf (s + 1 + tw.length) dw).filter (fun g => inSpan fr to (hd g).key)) := by
            unfold scanG
            rw [List.filterMap_cons]
            dsimp only
            rw [hhd, if_pos h1]
          rw [e]
          refine ⟨fun p hp => ?_, List.pairwise_cons.2 ⟨fun p hp hk => ?_, i2⟩⟩
          · rcases List.mem_cons.1 hp with rfl | hp
            · exact ⟨x, by simp, rfl⟩
            · exact up p hp
          · obtain ⟨y, hy, e⟩ := i1 p hp
            exact hd' y hy (by rw [← e]; exact hk.symm)
        · have e : scanG t ((s, x :: tw) :: (gpsOf (s + 1 + tw.length) dw).filter (fun g => inSpan fr to (hd g).key)) = scanG t ((gpsOf (s + 1 + tw.length) dw).filter (fun g => inSpan fr to (hd g).key)) := by
            unfold scanG
            rw [List.filterMap_cons]
            dsimp only
            rw [if_neg h1]
          rw [e]
          exact ⟨up, i2⟩
      · rw [List.filter_cons_of_neg (by rw [hhd]; exact h2)]
        exact ⟨up, i2⟩
theorem scanR_dif (low : Nat) (l : List Vr) (fr to : ByteArray) (t : Nat) : Dif (scanR low l fr to t).1 := by
  unfold scanR
  split
  · rename_i h
    exact (scan_dif fr to t l.length 0 l (Nat.le_refl _) (good_srt (ask_good h))).2
  · exact List.Pairwise.nil
theorem seen_dif {ws : List Wt} (hs : SrtW ws) (bs : List Pr) (hb : Dif bs) (ask : Sp) : Dif (oldP ws bs ++ (ws.filter (seenW ask)).map prOf) := by
  unfold Dif
  rw [List.pairwise_append]
  refine ⟨List.Pairwise.filter _ hb, ?_, ?_⟩
  · rw [List.pairwise_map]
    refine (List.Pairwise.filter _ hs).imp (fun {x y} h e => ?_)
    have e' : x.key.toList = y.key.toList := e
    rw [e', less_irrefl] at h
    cases h
  · intro p hp q hq e
    obtain ⟨x, hx, rfl⟩ := List.mem_map.1 hq
    have h1 := (List.mem_filter.1 hp).2
    have h2 : hasW ws p.key = true := List.any_eq_true.2 ⟨x, (List.mem_filter.1 hx).1, by
      have e' : p.key.toList = x.key.toList := e
      rw [e']; simp⟩
    rw [h2] at h1; cases h1
/-- every open transaction's writes rise -/
def WsOk (ms : Mg) : Prop := ∀ x ∈ ms.opn, SrtW x.2.ws
theorem Mn.srt {X : Nat → Prop} {w : World} {g : Nat} {ms : Mg} (h : Mn X w g ms) : WsOk ms := by
  obtain ⟨ob, ps, h1, _⟩ := h.ex
  intro x hx
  obtain ⟨i, hi⟩ := List.getElem?_of_mem hx
  obtain ⟨l, hl⟩ := Mn.pl h1 hi
  obtain ⟨D, _, hD⟩ := (h1.each i x.1 x.2 l hi hl).map
  exact hD.srt
end Go.Proofs.YtlkmcbelmldleaaGreat
/- two managers beside one another -/
namespace Go.Proofs.YtlkmcbelmldleaaGreat
open Go.RowKit
set_option maxRecDepth 40000
set_option linter.unusedVariables false
/-- the blocks of a manager -/
def OwnM (w : World) (g ob : Nat) (ps : List Pl) (i : Nat) : Prop := SM g ob ps i ∨ VB w g i
/-- two managers that share no block, and have none of a set -/
structure Duo (X : Nat → Prop) (w : World) (g g' : Nat) (ms ms' : Mg) : Prop where
  ex : ∃ ob ps ob' ps', IsM w g ob ps ms ∧ IsM w g' ob' ps' ms' ∧ (∀ i, OwnM w g ob ps i → ¬ OwnM w g' ob' ps' i) ∧ (∀ i, OwnM w g ob ps i → ¬ X i) ∧ ∀ i, OwnM w g' ob' ps' i → ¬ X i
  few : ∀ x ∈ ms.opn, x.2.reads.length ≤ 256 ∧ x.2.ws.length ≤ 256
  few' : ∀ x ∈ ms'.opn, x.2.reads.length ≤ 256 ∧ x.2.ws.length ≤ 256
  xb : ∀ i, X i → i < w.heap.size
theorem Duo.swap {X : Nat → Prop} {w : World} {g g' : Nat} {ms ms' : Mg} (h : Duo X w g g' ms ms') : Duo X w g' g ms' ms := by
  obtain ⟨ob, ps, ob', ps', h1, h2, h3, h4, h5⟩ := h.ex
  exact ⟨⟨ob', ps', ob, ps, h2, h1, fun i hi hj => h3 i hj hi, h5, h4⟩, h.few', h.few, h.xb⟩
theorem Duo.mono {X Y : Nat → Prop} {w : World} {g g' : Nat} {ms ms' : Mg} (h : Duo X w g g' ms ms') (hxy : ∀ i, Y i → X i) : Duo Y w g g' ms ms' := by
  obtain ⟨ob, ps, ob', ps', h1, h2, h3, h4, h5⟩ := h.ex
  exact ⟨⟨ob, ps, ob', ps', h1, h2, h3, fun i hi hy => h4 i hi (hxy i hy), fun i hi hy => h5 i hi (hxy i hy)⟩, h.few, h.few', fun i hi => h.xb i (hxy i hi)⟩
/-- the first, by itself -/
theorem Duo.left {X : Nat → Prop} {w : World} {g g' : Nat} {ms ms' : Mg} (h : Duo X w g g' ms ms') : ∃ Y : Nat → Prop, (∀ i, X i → Y i) ∧ Mn Y w g ms ∧ ∀ (Z : Nat → Prop) (w1 : World) (ms1 : Mg), Mn (fun j => Y j ∨ Z j) w1 g ms1 → Frm (fun i => ¬ Y i) w w1 → (∀ j, Z j → w.heap.size ≤ j) → Duo (fun j => X j ∨ Z j) w1 g g' ms1 ms' := by
  obtain ⟨ob, ps, ob', ps', h1, h2, h3, h4, h5⟩ := h.ex
  have hlt : ∀ i, OwnM w g' ob' ps' i → i < w.heap.size := fun i hi => hi.elim (fun hi => h2.ltS hi) (fun hi => vb_lt h2 hi)
  refine ⟨fun i => X i ∨ OwnM w g' ob' ps' i, fun i hi => .inl hi, ⟨⟨ob, ps, h1, fun i hi hx => hx.elim (h4 i (.inl hi)) (h3 i (.inl hi))⟩, fun b hv hx => hx.elim (h4 b (.inr hv)) (h3 b (.inr hv)), h.few, fun i hi => hi.elim (h.xb i) (hlt i)⟩, ?_⟩
  intro Z w1 ms1 hM hF hZ
  obtain ⟨ob1, ps1, m1, m2⟩ := hM.ex
  have hk : ∀ i, OwnM w g' ob' ps' i → w1.heap[i]? = w.heap[i]? := fun i hi => hF.block i (hlt i hi) (fun hn => hn (.inr hi))
  have h2' : IsM w1 g' ob' ps' ms' := h2.keptX hF.size (fun i hi => hk i (.inl hi)) (fun i hi _ => hk i (.inr hi))
  have hback : ∀ i, OwnM w1 g' ob' ps' i → OwnM w g' ob' ps' i := fun i hi => hi.imp id (fun hv => hv.same (hk g' (.inl (.inl rfl))))
  have hown : ∀ i, OwnM w1 g ob1 ps1 i → ¬ ((X i ∨ OwnM w g' ob' ps' i) ∨ Z i) := fun i hi => hi.elim (m2 i) (hM.ver i)
  refine ⟨⟨ob1, ps1, ob', ps', m1, h2', fun i hi hj => hown i hi (.inl (.inr (hback i hj))), fun i hi hx => hown i hi (hx.elim (fun h => .inl (.inl h)) .inr), fun i hi hx => ?_⟩, hM.few, h.few', fun i hi => hM.xb i (hi.elim (fun h => .inl (.inl h)) .inr)⟩
  have h6 := hback i hi
  rcases hx with hx | hx
  · exact h5 i h6 hx
  · have := hZ i hx
    have := hlt i h6
    omega
theorem Duo.below {X : Nat → Prop} {w w' : World} {g g' : Nat} {ms ms' : Mg} (h : Duo X w g g' ms ms') (hb : Below w.heap.size w w') : Duo X w' g g' ms ms' := by
  obtain ⟨ob, ps, ob', ps', h1, h2, h3, h4, h5⟩ := h.ex
  have o1 : ∀ i, OwnM w' g ob ps i → OwnM w g ob ps i := fun i hi => hi.imp id (fun hv => hv.same (hb.block _ (h1.ltS (.inl rfl))))
  have o2 : ∀ i, OwnM w' g' ob' ps' i → OwnM w g' ob' ps' i := fun i hi => hi.imp id (fun hv => hv.same (hb.block _ (h2.ltS (.inl rfl))))
  exact ⟨⟨ob, ps, ob', ps', h1.below hb, h2.below hb, fun i hi hj => h3 i (o1 i hi) (o2 i hj), fun i hi => h4 i (o1 i hi), fun i hi => h5 i (o2 i hi)⟩, h.few, h.few', fun i hi => Nat.lt_of_lt_of_le (h.xb i hi) hb.size⟩
/-- new blocks are none of theirs -/
theorem Duo.news {X : Nat → Prop} {w w' : World} {g g' : Nat} {ms ms' : Mg} (h : Duo X w g g' ms ms') (hb : Below w.heap.size w w') : Duo (fun i => X i ∨ (w.heap.size ≤ i ∧ i < w'.heap.size)) w' g g' ms ms' := by
  obtain ⟨ob, ps, ob', ps', h1, h2, h3, h4, h5⟩ := h.ex
  have o1 : ∀ i, OwnM w' g ob ps i → OwnM w g ob ps i := fun i hi => hi.imp id (fun hv => hv.same (hb.block _ (h1.ltS (.inl rfl))))
  have o2 : ∀ i, OwnM w' g' ob' ps' i → OwnM w g' ob' ps' i := fun i hi => hi.imp id (fun hv => hv.same (hb.block _ (h2.ltS (.inl rfl))))
  have l1 : ∀ i, OwnM w g ob ps i → i < w.heap.size := fun i hi => hi.elim (fun hi => h1.ltS hi) (fun hi => vb_lt h1 hi)
  have l2 : ∀ i, OwnM w g' ob' ps' i → i < w.heap.size := fun i hi => hi.elim (fun hi => h2.ltS hi) (fun hi => vb_lt h2 hi)
  exact ⟨⟨ob, ps, ob', ps', h1.below hb, h2.below hb, fun i hi hj => h3 i (o1 i hi) (o2 i hj), fun i hi hx => hx.elim (h4 i (o1 i hi)) (fun h => by have := l1 i (o1 i hi); omega), fun i hi hx => hx.elim (h5 i (o2 i hi)) (fun h => by have := l2 i (o2 i hi); omega)⟩, h.few, h.few', fun i hi => hi.elim (fun hi => Nat.lt_of_lt_of_le (h.xb i hi) hb.size) (fun hi => hi.2)⟩
/-- a second that is made beside a first -/
theorem Duo.made {w w1 : World} {B g g' : Nat} {ms ms' : Mg} (h : Mn (fun i => i < B) w g ms) (hb : Below w.heap.size w w1) (h' : Mn (fun i => i < w.heap.size) w1 g' ms') : Duo (fun i => i < B) w1 g g' ms ms' := by
  obtain ⟨ob, ps, h1, h2⟩ := h.ex
  obtain ⟨ob', ps', h3, h4⟩ := h'.ex
  have l1 : ∀ i, OwnM w1 g ob ps i → i < w.heap.size ∧ ¬ i < B := fun i hi => hi.elim (fun hi => ⟨h1.ltS hi, h2 i hi⟩) (fun hv => have hv' := hv.same (hb.block _ (h1.ltS (.inl rfl))); ⟨vb_lt h1 hv', h.ver i hv'⟩)
  have l2 : ∀ i, OwnM w1 g' ob' ps' i → ¬ i < w.heap.size := fun i hi => hi.elim (h4 i) (h'.ver i)
  have hB : ∀ i, i < B → i < w.heap.size := fun i hi => h.xb i hi
  exact ⟨⟨ob, ps, ob', ps', h1.below hb, h3, fun i hi hj => l2 i hj (l1 i hi).1, fun i hi => (l1 i hi).2, fun i hi hx => l2 i hi (hB i hx)⟩, h.few, h'.few, fun i hi => Nat.lt_of_lt_of_le (hB i hi) hb.size⟩
end Go.Proofs.YtlkmcbelmldleaaGreat
/- a step's answer -/
namespace Go.Proofs.YtlkmcbelmldleaaGreat
open Go.RowKit
open Go.Maps (Keyed has size)
set_option maxRecDepth 40000
set_option linter.unusedVariables false
/-- an answer, and the blocks that it has -/
structure Has (w : World) (Z : Nat → Prop) (v : Value) (A : An) : Prop where
  now : IsA w v A
  kept : ∀ W : World, (∀ j, Z j → W.heap[j]? = w.heap[j]?) → IsA W v A
/-- what a step answers -/
def AnOk (ms : Mg) (k : Nat) (t : Int) (key to val : ByteArray) (A : An) : Prop :=
  if k = 1 then A = ⟨(mBegin ms).2.2, (mBegin ms).2.1, ⟨#[]⟩, false, [], [], 0⟩
  else if k = 2 then A = ⟨(mGet ms t key).2.2.2, 0, (mGet ms t key).2.1, (mGet ms t key).2.2.1, [], [], 0⟩
  else if k = 3 then ∃ l, ScanL ms t key to l ∧ A = ⟨(mScan ms t key to).2, 0, ⟨#[]⟩, false, l, [], 0⟩
  else if k = 4 then A = ⟨(mWrite ms t ⟨key, val, false⟩).2, 0, ⟨#[]⟩, false, [], [], 0⟩
  else if k = 5 then A = ⟨(mWrite ms t ⟨key, ⟨#[]⟩, true⟩).2, 0, ⟨#[]⟩, false, [], [], 0⟩
  else if k = 6 then A = ⟨(mCommit ms t).2.2.2, 0, ⟨#[]⟩, false, [], (mCommit ms t).2.1, (mCommit ms t).2.2.1⟩
  else if k = 7 then A = ⟨(mAbort ms t).2, 0, ⟨#[]⟩, false, [], [], 0⟩
  else A = ⟨15, 0, ⟨#[]⟩, false, [], [], 0⟩
end Go.Proofs.YtlkmcbelmldleaaGreat
/- what holds of every manager that steps have made -/
namespace Go.Proofs.YtlkmcbelmldleaaGreat
open Go.RowKit
set_option maxRecDepth 40000
/-- its versions are good, and none is of a time to come; its writes are short -/
structure Gd (ms : Mg) : Prop where
  good : goodB ms.low ms.vs = true
  low : ms.low ≤ ms.now
  vat : ∀ x ∈ ms.vs, x.at_ ≤ ms.now
  ws : ∀ x ∈ ms.opn, x.2.ws.any longB = false
section
variable {ms : Mg}
theorem Gd.turn (h : Gd ms) {i n : Nat} {tr' : Tr} (hb : tr'.ws.any longB = false) : Gd (ms.turn i n tr') := by
  refine ⟨h.good, h.low, h.vat, fun x hx => ?_⟩
  obtain ⟨j, hj⟩ := List.mem_iff_getElem?.1 hx
  rcases get_set (show (ms.opn.set i (n, tr'))[j]? = some x from hj) with ⟨_, e, _⟩ | ⟨_, e⟩
  · rw [e]; exact hb
  · exact h.ws x (List.mem_of_getElem? e)
theorem Gd.begin (h : Gd ms) : Gd (mBegin ms).1 := by
  unfold mBegin
  split
  · exact h
  · refine ⟨h.good, h.low, h.vat, fun x hx => ?_⟩
    have hx' : x ∈ ms.opn ++ [(ms.last + 1, (⟨ms.now, [], []⟩ : Tr))] := hx
    rcases List.mem_append.1 hx' with hx' | hx'
    · exact h.ws x hx'
    · rw [List.mem_singleton.1 hx']; rfl
theorem Gd.ended (h : Gd ms) (hn : ms.now ≤ 2305843009213693952) (i : Nat) : Gd (ms.ended i) := by
  have hws : ∀ x ∈ ms.opn.eraseIdx i, x.2.ws.any longB = false := fun x hx => h.ws x (List.mem_of_mem_eraseIdx hx)
  have hl := (lowOf_le ms.now (ms.opn.eraseIdx i)).1
  unfold Mg.ended
  by_cases hs : sweepE ms.low ms.vs (lowOf ms.now (ms.opn.eraseIdx i)) = 0
  · rw [sweepR_yes hs, if_pos rfl]
    exact ⟨good_sub h.good (Nat.le_trans hl hn) _, hl, fun x hx => h.vat x (List.mem_filter.1 hx).1, hws⟩
  · have hz : ¬ (sweepR ms.low ms.vs (lowOf ms.now (ms.opn.eraseIdx i))).2.2 = 0 := by
      unfold sweepR
      rw [if_neg hs]; exact hs
    rw [if_neg hz]
    exact ⟨h.good, h.low, h.vat, hws⟩
theorem putL_mem {low : Nat} {l : List Vr} {ws : List Wt} {t : Nat} (h : refE low l ws t = 0) {x : Vr} (hx : x ∈ putL t l ws) : x ∈ l ∨ x.at_ = t := by
  obtain ⟨h1, _, _, h4, _, _, h7, _⟩ := ref_zero h
  have k2 := (putL_good t ws l (good_srt h1) (fun y hy _ _ _ => by
    have := List.any_eq_false.1 h7 y hy
    unfold lateB at this
    simp at this
    omega) (by unfold twiceB at h4; simpa using h4)).2
  rcases List.mem_append.1 (k2.mem_iff.1 hx) with h | h
  · exact .inl h
  · obtain ⟨y, _, rfl⟩ := List.mem_map.1 h
    exact .inr rfl
theorem Gd.com (h : Gd ms) (tr : Tr) : Gd (comM ms tr) := by
  unfold comM
  split
  · exact h
  · next hn =>
    have hz : (putR ms.low ms.vs tr.ws (ms.now + 1)).2.2 = 0 := Classical.not_not.1 (fun hh => hn (.inr (.inr hh)))
    have hr : refE ms.low ms.vs tr.ws (ms.now + 1) = 0 := by
      by_cases hq : refE ms.low ms.vs tr.ws (ms.now + 1) = 0
      · exact hq
      · unfold putR at hz
        rw [if_neg hq] at hz
        exact absurd hz hq
    have e : putR ms.low ms.vs tr.ws (ms.now + 1) = (putL (ms.now + 1) ms.vs tr.ws, ms.low, 0) := by unfold putR; rw [if_pos hr]
    rw [e]
    refine ⟨put_good hr, Nat.le_succ_of_le h.low, fun x hx => ?_, h.ws⟩
    rcases putL_mem hr hx with h1 | h1
    · exact Nat.le_succ_of_le (h.vat x h1)
    · exact Nat.le_of_eq h1
theorem Gd.does (h : Gd ms) (hn : ms.now + 1 ≤ 2305843009213693952) (k : Nat) (t : Int) (ky to val : ByteArray) : Gd (mDo ms k t ky to val) := by
  have hw : ∀ x, Gd (mWrite ms t x).1 := fun x => by
    unfold mWrite
    cases ha : ms.at t with
    | none => exact h
    | some y =>
      obtain ⟨i, n, tr⟩ := y
      exact h.turn (wrote_long (h.ws _ (List.mem_of_getElem? (at_some ha).1)))
  unfold mDo
  split
  · exact h.begin
  split
  · unfold mGet
    cases ha : ms.at t with
    | none => exact h
    | some y =>
      obtain ⟨i, n, tr⟩ := y
      have := h.ws _ (List.mem_of_getElem? (at_some ha).1)
      exact h.turn (by split <;> exact this)
  split
  · unfold mScan
    cases ha : ms.at t with
    | none => exact h
    | some y =>
      obtain ⟨i, n, tr⟩ := y
      have := h.ws _ (List.mem_of_getElem? (at_some ha).1)
      dsimp only
      split
      · exact h
      · exact h.turn this
  split
  · exact hw _
  split
  · exact hw _
  split
  · unfold mCommit
    cases ha : ms.at t with
    | none => exact h
    | some y =>
      obtain ⟨i, n, tr⟩ := y
      exact (h.com tr).ended (Nat.le_trans (comM_nums ms tr).2 hn) i
  split
  · unfold mAbort
    cases ha : ms.at t with
    | none => exact h
    | some y =>
      obtain ⟨i, n, tr⟩ := y
      exact h.ended (by omega) i
  · exact h
/-- a commit that nothing stands against is done, or finds too many -/
theorem Gd.commit (h : Gd ms) (hn : ms.now + 1 ≤ 2305843009213693952) {i n : Nat} {tr : Tr} (hq : ms.opn[i]? = some (n, tr)) (hs : SrtW tr.ws) (hl : tr.ws.length ≤ 256) (hc : conflB ms.vs tr = false) : comE ms tr = 0 ∨ comE ms tr = 3 := by
  unfold comE
  rw [if_neg (by rw [hc]; simp)]
  split
  · exact .inl rfl
  · have hlong := h.ws _ (List.mem_of_getElem? hq)
    have ht : timeB (ms.now + 1) = true := decide_eq_true ⟨by omega, hn⟩
    have hlow : ¬ (ms.now + 1 < ms.low ∨ ms.vs.any (lateB (ms.now + 1)) = true) := by
      rintro (h1 | h1)
      · have := h.low; omega
      · obtain ⟨x, hx, hl⟩ := List.any_eq_true.1 h1
        have := h.vat x hx
        unfold lateB at hl
        simp at hl
        omega
    have hr : refE ms.low ms.vs tr.ws (ms.now + 1) = 0 ∨ refE ms.low ms.vs tr.ws (ms.now + 1) = 3 := by
      unfold refE
      rw [if_pos h.good, if_neg (by omega), if_neg (by rw [hlong]; simp), if_neg (by rw [srt_twice hs]; simp), if_pos ht, if_neg hlow]
      split
      · exact .inr rfl
      · exact .inl rfl
    unfold putR
    rcases hr with hr | hr
    · rw [if_pos hr]; exact .inl rfl
    · rw [if_neg (by rw [hr]; decide)]; exact .inr hr
end
theorem gd_start {l : List Pr} (h : newE l = 0) : Gd ⟨1, vsN l, 1, 0, []⟩ :=
  ⟨vsN_good h, Nat.le_refl _, fun x hx => (putL_mem (new_ref h) hx).elim (fun h => by cases h) (fun e => Nat.le_of_eq e), fun x hx => by cases hx⟩
end Go.Proofs.YtlkmcbelmldleaaGreat

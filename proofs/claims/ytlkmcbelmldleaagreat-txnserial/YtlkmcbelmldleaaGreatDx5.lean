/- Ea Eb Ec Ed Ef Eh -/
import Derived.Test.YtlkmcbelmldleaaGreatDx4
import Derived.Test.YtlkmcbelmldleaaGreatDx2
import Derived.Deep.DeepAppendRoom
import Derived.ArgAppend
/- transactions done once more on plain entries: what they were answered, and what they come to -/
namespace Go.Proofs.YtlkmcbelmldleaaGreat
open Go.RowKit
set_option maxRecDepth 40000
set_option linter.unusedVariables false
set_option linter.unusedSimpArgs false
/-- what plain entries answer of a key -/
def valP (o : Option ByteArray) : ByteArray × Bool := match o with
  | some v => (v, true)
  | none => (⟨#[]⟩, false)
/-- the entries of a span -/
def spanP (l : List Pr) (fr to : ByteArray) : List Pr := l.filter (fun p => inSp (fr, to) p.key)
/-- a step done on plain entries; none: it is answered otherwise -/
noncomputable def rep1 (l : List Pr) (y : Sx × An) : Option (List Pr) :=
  if ¬ y.2.why = 0 then some l
  else if y.1.k = 2 then (open Classical in if valP (getP l y.1.key) = (y.2.val, y.2.is) then some l else none)
  else if y.1.k = 3 then (open Classical in if spanP l y.1.key y.1.to = y.2.pairs then some l else none)
  else if y.1.k = 4 then some (withP l ⟨y.1.key, y.1.val, false⟩)
  else if y.1.k = 5 then some (withP l ⟨y.1.key, ⟨#[]⟩, true⟩)
  else some l
noncomputable def repL : List Pr → List (Sx × An) → Option (List Pr)
  | l, [] => some l
  | l, y :: r => match rep1 l y with
    | none => none
    | some l' => repL l' r
theorem repL_snoc (y : Sx × An) : ∀ (st : List (Sx × An)) (l l' : List Pr), repL l st = some l' → repL l (st ++ [y]) = rep1 l' y
  | [], l, l', h => by
    cases h
    show (match rep1 l y with | none => none | some l' => repL l' []) = rep1 l y
    cases rep1 l y <;> rfl
  | z :: r, l, l', h => by
    unfold repL at h
    show (match rep1 l z with | none => none | some l' => repL l' (r ++ [y])) = rep1 l' y
    cases hz : rep1 l z with
    | none => rw [hz] at h; cases h
    | some q => rw [hz] at h; exact repL_snoc y r q l' h
/-- what a transaction did, and what it was answered -/
structure Td where
  tx : Int
  st : List (Sx × An)
def noteL : List Td → Sx → An → List Td
  | [], x, A => [⟨x.t, [(x, A)]⟩]
  | T :: r, x, A => if T.tx = x.t then ⟨T.tx, T.st ++ [(x, A)]⟩ :: r else T :: noteL r x A
def stOf : List Td → Int → List (Sx × An)
  | [], _ => []
  | T :: r, t => if T.tx = t then T.st else stOf r t
def Uniq (l : List Td) : Prop := l.Pairwise (fun a b => ¬ a.tx = b.tx)
theorem stOf_note (x : Sx) (A : An) (t : Int) : ∀ l : List Td, stOf (noteL l x A) t = if x.t = t then stOf l t ++ [(x, A)] else stOf l t
  | [] => by
    show (if x.t = t then [(x, A)] else []) = if x.t = t then [] ++ [(x, A)] else []
    rfl
  | T :: r => by
    unfold noteL
    by_cases h : T.tx = x.t
    · rw [if_pos h]
      unfold stOf
      by_cases e : x.t = t
      · rw [if_pos (h.trans e), if_pos (h.trans e), if_pos e]
      · rw [if_neg (fun q => e (h.symm.trans q)), if_neg (fun q => e (h.symm.trans q)), if_neg e]
    · rw [if_neg h]
      unfold stOf
      rw [stOf_note x A t r]
      by_cases e : T.tx = t
      · rw [if_pos e, if_pos e, if_neg (fun q => h (e.trans q.symm))]
      · rw [if_neg e, if_neg e]
theorem note_mem (x : Sx) (A : An) : ∀ (l : List Td), ∀ T ∈ noteL l x A, T.tx = x.t ∨ ∃ U ∈ l, U.tx = T.tx
  | [], T, h => by
    rw [List.mem_singleton.1 h]; exact .inl rfl
  | U :: r, T, h => by
    unfold noteL at h
    split at h
    · rcases List.mem_cons.1 h with rfl | h
      · exact .inr ⟨U, List.mem_cons_self, rfl⟩
      · exact .inr ⟨T, List.mem_cons_of_mem _ h, rfl⟩
    · rcases List.mem_cons.1 h with rfl | h
      · exact .inr ⟨T, List.mem_cons_self, rfl⟩
      · rcases note_mem x A r T h with q | ⟨V, hV, e⟩
        · exact .inl q
        · exact .inr ⟨V, List.mem_cons_of_mem _ hV, e⟩
theorem note_uniq (x : Sx) (A : An) : ∀ {l : List Td}, Uniq l → Uniq (noteL l x A)
  | [], _ => List.pairwise_singleton _ _
  | T :: r, h => by
    obtain ⟨h1, h2⟩ := List.pairwise_cons.1 h
    unfold noteL
    split
    · exact List.pairwise_cons.2 ⟨h1, h2⟩
    · rename_i hn
      refine List.pairwise_cons.2 ⟨fun U hU => ?_, note_uniq x A h2⟩
      rcases note_mem x A r U hU with q | ⟨V, hV, e⟩
      · rw [q]; exact hn
      · rw [← e]; exact h1 V hV
/-- those of a number -/
def ofTx (l : List Td) (t : Int) : List Td := l.filter (fun T => decide (T.tx = t))
noncomputable def repA : List Pr → List Td → Option (List Pr)
  | l, [] => some l
  | l, T :: r => match repL l T.st with
    | none => none
    | some l' => repA l' r
theorem repA_app : ∀ (a b : List Td) (l l' : List Pr), repA l a = some l' → repA l (a ++ b) = repA l' b
  | [], b, l, l', h => by cases h; rfl
  | T :: r, b, l, l', h => by
    unfold repA at h
    show (match repL l T.st with | none => none | some q => repA q (r ++ b)) = repA l' b
    cases hz : repL l T.st with
    | none => rw [hz] at h; cases h
    | some q => rw [hz] at h; exact repA_app r b q l' h
theorem repA_one (l : List Pr) (t : Int) : ∀ {o : List Td}, Uniq o → repA l (ofTx o t) = repL l (stOf o t)
  | [], _ => rfl
  | T :: r, h => by
    obtain ⟨h1, h2⟩ := List.pairwise_cons.1 h
    unfold ofTx stOf
    rw [List.filter_cons]
    by_cases e : T.tx = t
    · rw [if_pos (by simpa using e), if_pos e, List.filter_eq_nil_iff.2 (fun U hU => by have := h1 U hU; rw [e] at this; simpa using fun q => this q.symm)]
      show (match repL l T.st with | none => none | some q => some q) = repL l T.st
      cases repL l T.st <;> rfl
    · rw [if_neg (by simpa using e), if_neg e]
      exact repA_one l t h2
/-- in what was read -/
def inRd (tr : Tr) (k : ByteArray) : Bool := tr.reads.any (fun x => inSp x k)
/-- whatever agrees with what a transaction saw of what it read is, with its steps done, as it says -/
def QT (vs : List Vr) (tr : Tr) (st : List (Sx × An)) : Prop := ∀ B, SrtP B → (∀ k, inRd tr k = true → getP B k = seenO vs tr.began k) → ∃ B', repL B st = some B' ∧ SrtP B' ∧ ∀ k, getP B' k = saysW tr.ws k (getP B k)
section
variable {vs : List Vr} {tr : Tr} {st : List (Sx × An)} {y : Sx × An}
theorem QT.nil (b : Nat) : QT vs ⟨b, [], []⟩ [] := fun B hB _ => ⟨B, rfl, hB, fun k => rfl⟩
theorem QT.triv (h : QT vs tr st) (hy : ∀ l, rep1 l y = some l) : QT vs tr (st ++ [y]) := fun B hB ha => by
  obtain ⟨B', h1, h2, h3⟩ := h B hB ha
  exact ⟨B', by rw [repL_snoc y st B B' h1, hy], h2, h3⟩
theorem rep1_why (h : ¬ y.2.why = 0) (l : List Pr) : rep1 l y = some l := by unfold rep1; rw [if_pos h]
theorem rep1_other (h : ¬ y.1.k = 2) (h3 : ¬ y.1.k = 3) (h4 : ¬ y.1.k = 4) (h5 : ¬ y.1.k = 5) (l : List Pr) : rep1 l y = some l := by
  unfold rep1
  rw [if_neg h, if_neg h3, if_neg h4, if_neg h5]
  split <;> rfl
theorem inRd_read (tr : Tr) (x : ByteArray × ByteArray) (k : ByteArray) : inRd (tr.read x) k = (inRd tr k || inSp x k) := by
  unfold inRd Tr.read
  simp
theorem less_snoc : ∀ a : List UInt8, Op.bytesLess a (a ++ [0]) = true := by
  intro a
  induction a with
  | nil => rfl
  | cons x r ih => simp [Op.bytesLess, ih]
theorem inSp_own (k : ByteArray) : inSp (k, k ++ ⟨#[0]⟩) k = true := by
  have h1 : Op.bytesLess k.toList (k ++ ⟨#[0]⟩).toList = true := by
    have e : (k ++ ⟨#[0]⟩ : ByteArray).toList = k.toList ++ [0] := by
      rw [ByteArray.toList_eq, ByteArray.toList_eq]
      simp
    rw [e]
    exact less_snoc _
  unfold inSp
  rw [less_irrefl, h1]
  simp
theorem QT.get (h : QT vs tr st) (hk : y.1.k = 2) (hA : valP (saysW tr.ws y.1.key (seenO vs tr.began y.1.key)) = (y.2.val, y.2.is)) : QT vs (tr.read (y.1.key, y.1.key ++ ⟨#[0]⟩)) (st ++ [y]) := fun B hB ha => by
  obtain ⟨B', h1, h2, h3⟩ := h B hB (fun k hk => ha k (by rw [inRd_read, hk]; rfl))
  refine ⟨B', ?_, h2, h3⟩
  rw [repL_snoc y st B B' h1]
  have e : getP B y.1.key = seenO vs tr.began y.1.key := ha y.1.key (by rw [inRd_read, inSp_own]; simp)
  unfold rep1
  rw [if_pos hk, h3, e, if_pos hA]
  split <;> rfl
theorem spanP_srt {l : List Pr} (h : SrtP l) (fr to : ByteArray) : SrtP (spanP l fr to) := List.Pairwise.filter _ h
theorem spanP_get {l : List Pr} (h : SrtP l) (fr to k : ByteArray) : getP (spanP l fr to) k = if inSp (fr, to) k = true then getP l k else none := by
  apply opt_ext
  intro v
  rw [getP_mem (spanP_srt h fr to)]
  unfold spanP
  rw [List.mem_filter]
  by_cases e : inSp (fr, to) k = true
  · rw [if_pos e, getP_mem h]
    exact ⟨fun q => q.1, fun q => ⟨q, e⟩⟩
  · rw [if_neg e]
    exact ⟨fun q => absurd q.2 e, fun q => by cases q⟩
theorem QT.scan (h : QT vs tr st) (hk : y.1.k = 3) (hS : SrtP y.2.pairs) (hA : ∀ k, getP y.2.pairs k = if inSp (y.1.key, y.1.to) k = true then saysW tr.ws k (seenO vs tr.began k) else none) : QT vs (tr.read (y.1.key, y.1.to)) (st ++ [y]) := fun B hB ha => by
  obtain ⟨B', h1, h2, h3⟩ := h B hB (fun k hk => ha k (by rw [inRd_read, hk]; rfl))
  refine ⟨B', ?_, h2, h3⟩
  rw [repL_snoc y st B B' h1]
  have e : spanP B' y.1.key y.1.to = y.2.pairs := srtP_ext (spanP_srt h2 _ _) hS (fun k => by
    rw [spanP_get h2, hA k]
    by_cases q : inSp (y.1.key, y.1.to) k = true
    · rw [if_pos q, if_pos q, h3, ha k (by rw [inRd_read, q]; simp)]
      rfl
    · rw [if_neg q, if_neg q])
  unfold rep1
  by_cases hw : y.2.why = 0
  · simp [hw, hk, e]
  · simp [hw]
theorem writ_putW {ws : List Wt} {x : Wt} (hs : SrtW ws) (hs' : SrtW (putW ws x)) (k : ByteArray) : writ (putW ws x) k = if x.key.toList = k.toList then some x else writ ws k := by
  apply opt_ext
  intro z
  rw [writ_mem hs', mem_putW]
  by_cases e : x.key.toList = k.toList
  · rw [if_pos e]
    constructor
    · rintro ⟨rfl | ⟨_, h2⟩, h3⟩
      · rfl
      · exact absurd (by rw [h3, e]) h2
    · intro q
      cases q
      exact ⟨.inl rfl, str_inj e⟩
  · rw [if_neg e, writ_mem hs]
    constructor
    · rintro ⟨rfl | ⟨h1, h2⟩, h3⟩
      · exact absurd (by rw [h3]) e
      · exact ⟨h1, h3⟩
    · rintro ⟨h1, h3⟩
      exact ⟨.inr ⟨h1, fun q => e (by rw [← q, h3])⟩, h3⟩
theorem saysW_putW {ws : List Wt} {x : Wt} (hs : SrtW ws) (hs' : SrtW (putW ws x)) (k : ByteArray) (z : Option ByteArray) : saysW (putW ws x) k z = if x.key.toList = k.toList then (if x.gone = true then none else some x.val) else saysW ws k z := by
  unfold saysW
  rw [writ_putW hs hs']
  by_cases e : x.key.toList = k.toList
  · rw [if_pos e, if_pos e]
  · rw [if_neg e, if_neg e]
theorem QT.write (h : QT vs tr st) (hs : SrtW tr.ws) {x : Wt} (hx : wrote tr x = 0) (hr : ∀ l, rep1 l y = some (withP l x)) : QT vs (wroteTr tr x) (st ++ [y]) := fun B hB ha => by
  obtain ⟨h4, h5⟩ := wroteTr_same tr x
  have hs' := wrote_srt (x := x) hs
  have hw : (wroteTr tr x).ws = putW tr.ws x := by unfold wroteTr; rw [if_pos hx]
  rw [hw] at hs'
  obtain ⟨B', h1, h2, h3⟩ := h B hB (fun k hk => by
    have := ha k (by unfold inRd; rw [h5]; exact hk)
    rwa [h4] at this)
  refine ⟨withP B' x, by rw [repL_snoc y st B B' h1, hr], withP_srt h2 x, fun k => ?_⟩
  rw [withP_get h2, h3, hw, saysW_putW hs hs']
theorem QT.other {vs' : List Vr} (h : QT vs tr st) (he : ∀ k, seenO vs' tr.began k = seenO vs tr.began k) : QT vs' tr st := fun B hB ha => h B hB (fun k hk => (ha k hk).trans (he k))
end
end Go.Proofs.YtlkmcbelmldleaaGreat
/- what TxnSerial keeps -/
namespace Go.Proofs.YtlkmcbelmldleaaGreat
open Go.RowKit
set_option maxRecDepth 40000
set_option linter.unusedVariables false
set_option linter.unusedSimpArgs false
theorem repL_triv : ∀ {st : List (Sx × An)} (l : List Pr), (∀ y ∈ st, ∀ l, rep1 l y = some l) → repL l st = some l
  | [], l, _ => rfl
  | y :: r, l, h => by
    unfold repL
    rw [h y List.mem_cons_self l]
    exact repL_triv l (fun z hz => h z (List.mem_cons_of_mem _ hz))
/-- those that committed, one behind the other, come to what there is; those that are open go well on whatever they saw -/
structure Ser (l0 : List Pr) (ms : Mg) (opn don : List Td) : Prop where
  cur : ∃ cur, repA l0 don = some cur ∧ NowIs ms cur
  each : ∀ x ∈ ms.opn, QT ms.vs x.2 (stOf opn (x.1 : Int))
  fut : ∀ t : Int, (ms.last : Int) < t → ∀ y ∈ stOf opn t, ∀ l, rep1 l y = some l
  beg : ∀ x ∈ ms.opn, ms.low ≤ x.2.began ∧ x.2.began ≤ ms.now
  uniq : Uniq opn
  emp : ∀ x ∈ ms.opn, ∀ y ∈ x.2.ws, y.gone = true → y.val = ⟨#[]⟩
section
variable {l0 : List Pr} {ms : Mg} {opn don : List Td} {x : Sx} {A : An}
theorem Ser.triv (h : Ser l0 ms opn don) (hy : ∀ l, rep1 l (x, A) = some l) : Ser l0 ms (noteL opn x A) don := by
  refine ⟨h.cur, fun z hz => ?_, fun t ht y hm => ?_, h.beg, note_uniq x A h.uniq, h.emp⟩
  · rw [stOf_note]
    split
    · exact (h.each z hz).triv hy
    · exact h.each z hz
  · rw [stOf_note] at hm
    split at hm
    · rcases List.mem_append.1 hm with hm | hm
      · exact h.fut t ht y hm
      · rw [List.mem_singleton.1 hm]; exact hy
    · exact h.fut t ht y hm
theorem Ser.turn (h : Ser l0 ms opn don) (hn : (∀ x ∈ ms.opn, x.1 ≤ ms.last) ∧ ms.opn.Pairwise (fun x y => x.1 < y.1)) {i n : Nat} {tr tr' : Tr} (q : ms.opn[i]? = some (n, tr)) (hx : x.t = (n : Int)) (hb : tr'.began = tr.began) (hE : ∀ y ∈ tr'.ws, y.gone = true → y.val = ⟨#[]⟩) (hQ : QT ms.vs tr' (stOf opn (n : Int) ++ [(x, A)])) : Ser l0 (ms.turn i n tr') (noteL opn x A) don := by
  obtain ⟨cur, h1, h2⟩ := h.cur
  have hm := List.mem_of_getElem? q
  refine ⟨⟨cur, h1, h2.same rfl rfl⟩, fun z hz => ?_, fun t ht y hy => ?_, fun z hz => ?_, note_uniq x A h.uniq, fun z hz => ?_⟩
  · obtain ⟨j, hj⟩ := List.mem_iff_getElem?.1 hz
    have hj' : (ms.opn.set i (n, tr'))[j]? = some z := hj
    by_cases e : j = i
    · subst e
      rw [List.getElem?_set_self (List.getElem?_eq_some_iff.1 q).1] at hj'
      cases hj'
      rw [stOf_note, if_pos hx]
      exact hQ
    · rw [List.getElem?_set_ne (fun q => e q.symm)] at hj'
      have hne : ¬ x.t = (z.1 : Int) := fun e' => by
        have e2 : n = z.1 := by rw [hx] at e'; omega
        have h3 := at_idx hn.2 q
        have h4 := at_idx hn.2 (show ms.opn[j]? = some (z.1, z.2) from hj')
        rw [← e2, h3] at h4
        injection h4 with h4
        injection h4 with h4 _
        exact e h4.symm
      rw [stOf_note, if_neg hne]
      exact h.each z (List.mem_of_getElem? hj')
  · have hl := hn.1 _ hm
    have ht' : (ms.last : Int) < t := ht
    rw [stOf_note, if_neg (by rw [hx]; dsimp only at hl; omega)] at hy
    exact h.fut t ht' y hy
  · obtain ⟨j, hj⟩ := List.mem_iff_getElem?.1 hz
    rcases get_set (show (ms.opn.set i (n, tr'))[j]? = some z from hj) with ⟨_, e, _⟩ | ⟨_, e⟩
    · rw [e]
      show ms.low ≤ tr'.began ∧ tr'.began ≤ ms.now
      rw [hb]
      exact h.beg _ hm
    · exact h.beg z (List.mem_of_getElem? e)
  · obtain ⟨j, hj⟩ := List.mem_iff_getElem?.1 hz
    rcases get_set (show (ms.opn.set i (n, tr'))[j]? = some z from hj) with ⟨_, e, _⟩ | ⟨_, e⟩
    · rw [e]; exact hE
    · exact h.emp z (List.mem_of_getElem? e)
theorem Ser.begun (h : Ser l0 ms opn don) (hg : Gd ms) : Ser l0 ms.begun opn don := by
  obtain ⟨cur, h1, h2⟩ := h.cur
  refine ⟨⟨cur, h1, h2.same rfl rfl⟩, fun z hz => ?_, fun t ht => h.fut t (by have : ((ms.last + 1 : Nat) : Int) < t := ht; omega), fun z hz => ?_, h.uniq, fun z hz => ?_⟩
  · have hz' : z ∈ ms.opn ++ [(ms.last + 1, (⟨ms.now, [], []⟩ : Tr))] := hz
    rcases List.mem_append.1 hz' with hz' | hz'
    · exact h.each z hz'
    · rw [List.mem_singleton.1 hz']
      have hf := h.fut ((ms.last + 1 : Nat) : Int) (by omega)
      exact fun B hB _ => ⟨B, repL_triv B hf, hB, fun k => rfl⟩
  · have hz' : z ∈ ms.opn ++ [(ms.last + 1, (⟨ms.now, [], []⟩ : Tr))] := hz
    rcases List.mem_append.1 hz' with hz' | hz'
    · exact h.beg z hz'
    · rw [List.mem_singleton.1 hz']
      exact ⟨hg.low, Nat.le_refl _⟩
  · have hz' : z ∈ ms.opn ++ [(ms.last + 1, (⟨ms.now, [], []⟩ : Tr))] := hz
    rcases List.mem_append.1 hz' with hz' | hz'
    · exact h.emp z hz'
    · rw [List.mem_singleton.1 hz']
      exact fun y hy => by cases hy
theorem ended_last (i : Nat) : (ms.ended i).last = ms.last := by unfold Mg.ended Mg.less; split <;> rfl
theorem ended_low (hg : goodB ms.low ms.vs = true) (i b : Nat) (h1 : ms.low ≤ b) (h2 : lowOf ms.now (ms.opn.eraseIdx i) ≤ b) : (ms.ended i).low ≤ b := by
  unfold Mg.ended
  by_cases hs : sweepE ms.low ms.vs (lowOf ms.now (ms.opn.eraseIdx i)) = 0
  · rw [sweepR_yes hs, if_pos rfl]
    exact h2
  · have hz : ¬ (sweepR ms.low ms.vs (lowOf ms.now (ms.opn.eraseIdx i))).2.2 = 0 := by
      unfold sweepR
      rw [if_neg hs]; exact hs
    rw [if_neg hz]
    exact h1
theorem Ser.ended (h : Ser l0 ms opn don) (hg : goodB ms.low ms.vs = true) (i : Nat) : Ser l0 (ms.ended i) opn don := by
  obtain ⟨cur, h1, h2⟩ := h.cur
  refine ⟨⟨cur, h1, h2.ended hg i⟩, fun z hz => ?_, fun t ht => h.fut t (by rw [ended_last] at ht; exact ht), fun z hz => ?_, h.uniq, fun z hz => h.emp z (by rw [ended_opn] at hz; exact List.mem_of_mem_eraseIdx hz)⟩
  · rw [ended_opn] at hz
    exact (h.each z (List.mem_of_mem_eraseIdx hz)).other (fun k => seenO_ended hg i ((lowOf_le _ _).2 z hz) k)
  · rw [ended_opn] at hz
    obtain ⟨h3, h4⟩ := h.beg z (List.mem_of_mem_eraseIdx hz)
    exact ⟨ended_low hg i _ h3 ((lowOf_le _ _).2 z hz), by rw [ended_now]; exact h4⟩
theorem good_gone {low : Nat} {l : List Vr} (hg : goodB low l = true) {v : Vr} (hv : v ∈ l) (h : v.gone = true) : v.val = ⟨#[]⟩ := by
  have hr := (good_iff.1 hg).2.2.1 v hv
  unfold rightB at hr
  rw [h] at hr
  simp only [Bool.and_eq_true] at hr
  have h2 := hr.2
  simp at h2
  exact str_inj (by rw [h2, ByteArray.toList_eq])
theorem seenO_old {low : Nat} {l : List Vr} {ws : List Wt} {t : Nat} (h : refE low l ws t = 0) {b : Nat} (hb : b < t) (k : ByteArray) : seenO (putL t l ws) b k = seenO l b k := by
  unfold seenO
  rw [put_filter h k]
  cases hw : writ ws k with
  | none => rw [Option.toList_none, List.map_nil, List.append_nil]
  | some z => rw [Option.toList_some, List.map_singleton, lastTo_skip (by show ¬ t ≤ b; omega)]
theorem seenO_noConf {vs : List Vr} {tr : Tr} {now : Nat} (hc : conflB vs tr = false) (hv : ∀ x ∈ vs, x.at_ ≤ now) (hb : tr.began ≤ now) {k : ByteArray} (hk : inRd tr k = true) : seenO vs now k = seenO vs tr.began k := by
  have hall : ∀ x ∈ vs.filter (sameK k), x.at_ ≤ tr.began := fun x hx => by
    obtain ⟨h1, h2⟩ := List.mem_filter.1 hx
    unfold conflB at hc
    have h3 := List.any_eq_false.1 hc x h1
    unfold hitB at h3
    have ek : x.key = k := str_inj (by unfold sameK at h2; simpa using h2)
    unfold inRd at hk
    rw [ek, hk] at h3
    simpa using h3
  unfold seenO
  rw [lastTo_all (t := now) (t' := tr.began) (fun x hx => hv x (List.mem_filter.1 hx).1) hall]
theorem comE_conf {ms : Mg} {tr : Tr} (h : comE ms tr = 0) : conflB ms.vs tr = false := by
  unfold comE at h
  cases hc : conflB ms.vs tr with
  | false => rfl
  | true => rw [hc, if_pos rfl] at h; cases h
theorem Ser.com (h : Ser l0 ms opn don) (hg : Gd ms) (hW : WsOk ms) {i n : Nat} {tr : Tr} (q : ms.opn[i]? = some (n, tr)) (hc : comE ms tr = 0) : Ser l0 (comM ms tr) opn (don ++ ofTx opn (n : Int)) := by
  obtain ⟨cur, h1, h2⟩ := h.cur
  have hm := List.mem_of_getElem? q
  have hs := hW _ hm
  have hN := h2.com hg hs hc
  obtain ⟨cur', r1, r2, r3⟩ := h.each _ hm cur h2.1 (fun k hk => (h2.2 k).trans (seenO_noConf (comE_conf hc) hg.vat (h.beg _ hm).2 hk))
  have he : cur' = allP cur tr.ws := srtP_ext r2 hN.1 (fun k => by rw [r3 k, allP_get _ hs h2.1 k])
  have hv : ∀ b, b ≤ ms.now → ∀ k, seenO (comM ms tr).vs b k = seenO ms.vs b k := fun b hb k => by
    by_cases hn : tr.ws = []
    · have : comM ms tr = ms := by unfold comM; rw [if_pos (.inr (.inl hn))]
      rw [this]
    · obtain ⟨h3, h4⟩ := com_ref hn hc
      rw [h4]
      exact seenO_old h3 (by omega) k
  have ho : (comM ms tr).opn = ms.opn := comM_opn ms tr
  have hl : (comM ms tr).last = ms.last := by unfold comM; split <;> rfl
  have hlow : (comM ms tr).low = ms.low := by
    by_cases hn : tr.ws = []
    · have : comM ms tr = ms := by unfold comM; rw [if_pos (.inr (.inl hn))]
      rw [this]
    · rw [(com_ref hn hc).2]
  refine ⟨⟨allP cur tr.ws, ?_, hN⟩, fun z hz => ?_, fun t ht => h.fut t (by rw [hl] at ht; exact ht), fun z hz => ?_, h.uniq, fun z hz => h.emp z (by rw [ho] at hz; exact hz)⟩
  · rw [repA_app _ _ _ _ h1, repA_one _ _ h.uniq, r1, he]
  · rw [ho] at hz
    exact (h.each z hz).other (hv _ (h.beg z hz).2)
  · rw [ho] at hz
    obtain ⟨h3, h4⟩ := h.beg z hz
    rw [hlow]
    exact ⟨h3, Nat.le_trans h4 (by unfold comM; split <;> simp)⟩
theorem Ser.commit (h : Ser l0 ms opn don) (hg : Gd ms) (hW : WsOk ms) (t : Int) : Ser l0 (mCommit ms t).1 opn (if (mCommit ms t).2.2.2 = 0 then don ++ ofTx opn t else don) := by
  unfold mCommit
  cases ha : ms.at t with
  | none =>
    dsimp only
    rw [if_neg (by decide)]
    exact h
  | some y =>
    obtain ⟨i, n, tr⟩ := y
    dsimp only
    obtain ⟨q1, rfl⟩ := at_some ha
    by_cases hc : comE ms tr = 0
    · rw [if_pos hc]
      exact (h.com hg hW q1 hc).ended (hg.com tr).good i
    · rw [if_neg hc, comM_no hc]
      exact h.ended hg.good i
/-- what Get answers of a key -/
theorem gotV_is {tr : Tr} (hE : ∀ y ∈ tr.ws, y.gone = true → y.val = ⟨#[]⟩) (hs : SrtW tr.ws) (hg : goodB ms.low ms.vs = true) (hb : ms.low ≤ tr.began) (k : ByteArray) : valP (saysW tr.ws k (seenO ms.vs tr.began k)) = ((gotV ms tr k).1, (gotV ms tr k).2.1) := by
  have hw : tr.ws.find? (fun y => y.key.toList == k.toList) = writ tr.ws k := rfl
  unfold gotV saysW
  rw [hw]
  cases hz : writ tr.ws k with
  | some z =>
    dsimp only
    cases hgn : z.gone with
    | false => rfl
    | true =>
      rw [if_pos rfl, hE z ((writ_mem hs k z).1 hz).1 hgn]
      rfl
  | none =>
    dsimp only
    rw [getR_good hg (by omega)]
    unfold seenO
    cases hq : lastTo (ms.vs.filter (sameK k)) tr.began with
    | none => rfl
    | some v =>
      have hv : v ∈ ms.vs := by
        have := List.mem_of_find?_eq_some (show ((ms.vs.filter (sameK k)).reverse.find? (fun x => decide (x.at_ ≤ tr.began))) = some v from hq)
        exact (List.mem_filter.1 (List.mem_reverse.1 this)).1
      cases hgn : v.gone with
      | false => simp [seenR, hgn, valP]
      | true =>
        have hr := good_gone hg hv hgn
        simp [seenR, hgn, valP, hr]
/-- a step that is none of a commit -/
theorem Ser.note (h : Ser l0 ms opn don) (hg : Gd ms) (hW : WsOk ms) (hn : (∀ x ∈ ms.opn, x.1 ≤ ms.last) ∧ ms.opn.Pairwise (fun x y => x.1 < y.1)) (hk : ¬ x.k = 6) (hA : AnOk ms x.k x.t x.key x.to x.val A) : Ser l0 (mDo ms x.k x.t x.key x.to x.val) (noteL opn x A) don := by
  have hwr : ∀ z : Wt, (z.gone = true → z.val = ⟨#[]⟩) → A.why = (mWrite ms x.t z).2 → (A.why = 0 → ∀ l, rep1 l (x, A) = some (withP l z)) → Ser l0 (mWrite ms x.t z).1 (noteL opn x A) don := fun z hz0 hy hr => by
    unfold mWrite at hy ⊢
    cases ha : ms.at x.t with
    | none =>
      rw [ha] at hy
      exact h.triv (rep1_why (by show ¬ A.why = 0; rw [hy]; show ¬ (11 : Int) = 0; decide))
    | some q =>
      obtain ⟨i, n, tr⟩ := q
      rw [ha] at hy
      dsimp only at hy ⊢
      obtain ⟨q1, q2⟩ := at_some ha
      have hm := List.mem_of_getElem? q1
      have hs := hW _ hm
      by_cases hw : wrote tr z = 0
      · refine h.turn hn q1 q2.symm (wroteTr_same tr z).1 (fun y hy' => ?_) ((h.each _ hm).write hs hw (hr (by rw [hy, hw])))
        have e : (wroteTr tr z).ws = putW tr.ws z := by unfold wroteTr; rw [if_pos hw]
        rw [e] at hy'
        rcases mem_putW.1 hy' with rfl | ⟨h1, _⟩
        · exact hz0
        · exact h.emp _ hm y h1
      · have e : wroteTr tr z = tr := by unfold wroteTr; rw [if_neg hw]
        rw [e, turn_same q1]
        exact h.triv (rep1_why (by show ¬ A.why = 0; rw [hy]; exact hw))
  unfold AnOk at hA
  unfold mDo
  by_cases h1 : x.k = 1
  · rw [if_pos h1]
    have ht : ∀ l, rep1 l (x, A) = some l := rep1_other (by show ¬ x.k = 2; omega) (by show ¬ x.k = 3; omega) (by show ¬ x.k = 4; omega) (by show ¬ x.k = 5; omega)
    unfold mBegin
    split
    · exact h.triv ht
    · exact (h.begun hg).triv ht
  rw [if_neg h1] at hA ⊢
  by_cases h2 : x.k = 2
  · rw [if_pos h2] at hA ⊢
    unfold mGet at hA ⊢
    cases ha : ms.at x.t with
    | none =>
      rw [ha] at hA
      exact h.triv (rep1_why (by rw [hA]; show ¬ (11 : Int) = 0; decide))
    | some q =>
      obtain ⟨i, n, tr⟩ := q
      rw [ha] at hA
      dsimp only at hA ⊢
      obtain ⟨q1, q2⟩ := at_some ha
      have hm := List.mem_of_getElem? q1
      by_cases hgt : gotE tr x.key = 0
      · rw [if_pos hgt] at hA ⊢
        refine h.turn hn q1 q2.symm rfl (h.emp _ hm) ((h.each _ hm).get (y := (x, A)) h2 ?_)
        show valP _ = (A.val, A.is)
        rw [hA]
        exact gotV_is (h.emp _ hm) (hW _ hm) hg.good (h.beg _ hm).1 x.key
      · rw [if_neg hgt] at hA ⊢
        rw [turn_same q1]
        exact h.triv (rep1_why (by rw [hA]; exact hgt))
  rw [if_neg h2] at hA ⊢
  by_cases h3 : x.k = 3
  · rw [if_pos h3] at hA ⊢
    obtain ⟨l, hS, hA⟩ := hA
    unfold mScan at hA ⊢
    cases ha : ms.at x.t with
    | none =>
      rw [ha] at hA
      exact h.triv (rep1_why (by rw [hA]; show ¬ (11 : Int) = 0; decide))
    | some q =>
      obtain ⟨i, n, tr⟩ := q
      rw [ha] at hA
      dsimp only at hA ⊢
      obtain ⟨q1, q2⟩ := at_some ha
      have hm := List.mem_of_getElem? q1
      by_cases hr : tr.reads.length = 256
      · rw [if_pos hr] at hA ⊢
        exact h.triv (rep1_why (by rw [hA]; show ¬ (3 : Int) = 0; decide))
      · rw [if_neg hr] at hA ⊢
        obtain ⟨s1, s2⟩ := scanL_get hS ha hr hg.good (h.beg _ hm).1 (hW _ hm)
        refine h.turn hn q1 q2.symm rfl (h.emp _ hm) ((h.each _ hm).scan (y := (x, A)) h3 (by show SrtP A.pairs; rw [hA]; exact s1) (by show ∀ k, getP A.pairs k = _; rw [hA]; exact s2))
  rw [if_neg h3] at hA ⊢
  by_cases h4 : x.k = 4
  · rw [if_pos h4] at hA ⊢
    refine hwr ⟨x.key, x.val, false⟩ (fun q => by cases q) (by rw [hA]) (fun hw l => ?_)
    unfold rep1
    rw [if_neg (fun q => q hw), if_neg h2, if_neg h3, if_pos h4]
  rw [if_neg h4] at hA ⊢
  by_cases h5 : x.k = 5
  · rw [if_pos h5] at hA ⊢
    refine hwr ⟨x.key, ⟨#[]⟩, true⟩ (fun _ => rfl) (by rw [hA]) (fun hw l => ?_)
    unfold rep1
    rw [if_neg (fun q => q hw), if_neg h2, if_neg h3, if_neg h4, if_pos h5]
  rw [if_neg h5] at hA ⊢
  have ht : ∀ l, rep1 l (x, A) = some l := rep1_other h2 h3 h4 h5
  rw [if_neg hk] at hA ⊢
  by_cases h7 : x.k = 7
  · rw [if_pos h7]
    unfold mAbort
    cases ha : ms.at x.t with
    | none => exact h.triv ht
    | some q => exact (h.ended hg.good _).triv ht
  rw [if_neg h7]
  exact h.triv ht
theorem Ser.start {l : List Pr} (h : newE l = 0) : Ser l ⟨1, vsN l, 1, 0, []⟩ [] [] :=
  ⟨⟨l, rfl, NowIs.start h⟩, fun x hx => (by cases hx), fun t _ y hy => (by cases hy), fun x hx => (by cases hx), List.Pairwise.nil, fun x hx => (by cases hx)⟩
end
end Go.Proofs.YtlkmcbelmldleaaGreat
/- the told rows in memory -/
namespace Go.Proofs.YtlkmcbelmldleaaGreat
open Go.RowKit
set_option maxRecDepth 40000
set_option linter.unusedVariables false
set_option linter.unusedSimpArgs false
/-- an answer and where its lists lie -/
structure Ra where
  A : An
  ap : Option Addr
  np : Nat
  cp : Nat
  ad : Option Addr
  nd : Nat
  cd : Nat
abbrev rac (x : Ra) : List Value := [.int .i64 x.A.why, .int .i64 x.A.tx, .string x.A.val, .bool x.A.is, .slice x.ap x.np x.cp, .slice x.ad x.nd x.cd, .int .u64 (x.A.time : Nat)]
abbrev rav (x : Ra) : Value := .agg #[.int .i64 x.A.why, .int .i64 x.A.tx, .string x.A.val, .bool x.A.is, .slice x.ap x.np x.cp, .slice x.ad x.nd x.cd, .int .u64 (x.A.time : Nat)]
/-- an answer reads so as long as some blocks stay -/
def OkA (D : Nat → Prop) (w : World) (x : Ra) : Prop := ∀ W : World, (∀ j, D j → W.heap[j]? = w.heap[j]?) → IsP W x.ap x.np x.cp x.A.pairs ∧ IsW W x.ad x.nd x.cd x.A.done
theorem OkA.step {D D' : Nat → Prop} {w w' : World} {x : Ra} (h : OkA D w x) (hD : ∀ j, D j → D' j) (hk : ∀ j, D j → w'.heap[j]? = w.heap[j]?) : OkA D' w' x := fun W hW => h W (fun j hj => (hW j (hD j hj)).trans (hk j hj))
theorem has_ra {w : World} {Z : Nat → Prop} {v : Value} {A : An} (h : Has w Z v A) : ∃ x : Ra, x.A = A ∧ v = rav x ∧ OkA Z w x := by
  obtain ⟨ap, np, cp, ad, nd, cd, hv, _, _⟩ := h.now
  refine ⟨⟨A, ap, np, cp, ad, nd, cd⟩, rfl, hv, fun W hW => ?_⟩
  obtain ⟨ap', np', cp', ad', nd', cd', hv', h1, h2⟩ := h.kept W hW
  rw [hv] at hv'
  simp at hv'
  obtain ⟨⟨rfl, rfl, rfl⟩, rfl, rfl, rfl⟩ := hv'
  exact ⟨h1, h2⟩
/-- two values that share no block -/
def Off (v u : Value) : Prop := ∀ j, v.ownBlock = some j → ¬ u.ownBlock = some j
theorem Off.symm {v u : Value} (h : Off v u) : Off u v := fun j h1 h2 => h j h2 h1
/-- what a transaction did, in memory -/
structure Tm where
  tx : Int
  sv : Value
  yv : Value
  ss : List Sx
  ys : List Ra
abbrev tmc (T : Tm) : List Value := [.int .i64 T.tx, T.sv, T.yv]
def Tm.td (T : Tm) : Td := ⟨T.tx, (T.ss.zip T.ys).map (fun p => (p.1, p.2.A))⟩
abbrev RowS (w : World) (B : Nat) (v : Value) (ss : List Sx) : Prop := w.ownsRow B 40 5 v ss.length (ss.flatMap sxc)
abbrev RowY (w : World) (B : Nat) (v : Value) (ys : List Ra) : Prop := w.ownsRow B 47 7 v ys.length (ys.flatMap rac)
abbrev RowM (w : World) (B : Nat) (v : Value) (os : List Tm) : Prop := w.ownsRow B 71 3 v os.length (os.flatMap tmc)
structure TOk (B : Nat) (w : World) (X D : Nat → Prop) (T : Tm) : Prop where
  num : i64B T.tx
  rs : RowS w B T.sv T.ss
  ry : RowY w B T.yv T.ys
  xs : ∀ j, T.sv.ownBlock = some j → X j ∧ ¬ D j
  xy : ∀ j, T.yv.ownBlock = some j → X j ∧ ¬ D j
  ans : ∀ y ∈ T.ys, OkA D w y
/-- cells held behind a slice -/
def Cels (w : World) (v : Value) (n : Nat) (xs : List Value) : Prop := ∃ b c, v = .slice (some ⟨b, 0, none⟩) n c ∧ n ≤ c ∧ c ≤ maxLen ∧ b < w.heap.size ∧ ∀ j u, xs[j]? = some u → w.cell? ⟨b, j, none⟩ = some u
structure THeld (w : World) (X D : Nat → Prop) (T : Tm) : Prop where
  num : i64B T.tx
  hs : Cels w T.sv T.ss.length (T.ss.flatMap sxc)
  hy : Cels w T.yv T.ys.length (T.ys.flatMap rac)
  xs : ∀ j, T.sv.ownBlock = some j → X j ∧ ¬ D j
  xy : ∀ j, T.yv.ownBlock = some j → X j ∧ ¬ D j
  ans : ∀ y ∈ T.ys, OkA D w y
/-- what a change in one row leaves -/
structure Kept (w w' : World) (ob : Option Nat) (k : Nat) : Prop where
  size : w.heap.size ≤ w'.heap.size
  block : ∀ b, b < w.heap.size → ¬ some b = ob → w'.heap[b]? = w.heap[b]?
  cell : ∀ b j u, j < k → w.cell? ⟨b, j, none⟩ = some u → w'.cell? ⟨b, j, none⟩ = some u
theorem sxs_len (l : List Sx) : (l.flatMap sxc).length = l.length * 5 := by
  induction l with
  | nil => rfl
  | cons x r ih => simp [List.flatMap_cons, ih]; omega
theorem ras_len (l : List Ra) : (l.flatMap rac).length = l.length * 7 := by
  induction l with
  | nil => rfl
  | cons x r ih => simp [List.flatMap_cons, ih]; omega
theorem Cels.kept {w w' : World} {ob : Option Nat} {k n : Nat} {v : Value} {xs : List Value} (h : Cels w v n xs) (hk : Kept w w' ob k) (hn : v.ownBlock = ob → xs.length ≤ k) : Cels w' v n xs := by
  obtain ⟨b, c, rfl, h1, h2, h3, h4⟩ := h
  refine ⟨b, c, rfl, h1, h2, Nat.lt_of_lt_of_le h3 hk.size, fun j u hj => ?_⟩
  by_cases e : some b = ob
  · exact hk.cell b j u (Nat.lt_of_lt_of_le (List.getElem?_eq_some_iff.1 hj).1 (hn e)) (h4 j u hj)
  · exact (World.cell?_of_block (hk.block b h3 e)).trans (h4 j u hj)
theorem Cels.blk {w : World} {n : Nat} {v : Value} {xs : List Value} (h : Cels w v n xs) : ∀ j, v.ownBlock = some j → j < w.heap.size := by
  obtain ⟨b, c, rfl, _, _, h3, _⟩ := h
  intro j hj
  obtain rfl : b = j := by simpa [Value.ownBlock] using hj
  exact h3
theorem cels_of {w : World} {B e s n : Nat} {v : Value} {xs : List Value} (h : w.ownsRow B e s v n xs) (hn : 0 < n) : Cels w v n xs := by
  rcases h.2 with ⟨_, h0⟩ | ⟨g, cap, cur, rfl, _, hg, h3, h4, _⟩
  · omega
  · refine ⟨g, cap, rfl, h3, h4, heap_lt hg, fun j u hj => ?_⟩
    rw [h.cellAt j (by rw [← h.1]; exact (List.getElem?_eq_some_iff.1 hj).1)]
    exact hj
theorem TOk.held {B : Nat} {w : World} {X D : Nat → Prop} {T : Tm} (h : TOk B w X D T) (h1 : 0 < T.ss.length) (h2 : 0 < T.ys.length) : THeld w X D T := ⟨h.num, cels_of h.rs h1, cels_of h.ry h2, h.xs, h.xy, h.ans⟩
/-- both arms of an append onto an own row, with what stays -/
theorem app_two {W : World} (base t ty e : Nat) {i : TypeInfo} {z : Value} {size bytes : Nat} (ht : Tryz.prog.underlying t = some (.slice e)) (hi : Tryz.prog.info? e = some i) (hz : i.zero = some z) (hsize : i.size = size) (hby : i.bytes = bytes) (hzs : z.cells.size = size) (hsz : 0 < size)
    {v : Value} {n : Nat} {xs : List Value} (hown : W.ownsRow base e size v n xs) (a : Addr) (m c : Nat) (news : List Value) (hl : news.length = m * size) (hnews : ∀ j u, news[j]? = some u → W.cell? (a.add j) = some u) (h1 : ∀ u ∈ news, u.oneCell' = true)
    (h63 : n + m ≤ maxLen) (hbytes : (n + m) * bytes ≤ 140737488355328) (hbase : base ≤ W.heap.size) :
    ∃ v' w', (Builtin.append_ #[t, t] ty #[v, .slice (some a) m c]).run Tryz.prog W = .ok v' w' ∧ w'.ownsRow base e size v' (n + m) (xs ++ news) ∧ W.grownBy w' v.ownBlock ∧ (v'.ownBlock = v.ownBlock ∨ ∀ j, v'.ownBlock = some j → W.heap.size ≤ j) ∧ Kept W w' v.ownBlock (n * size) := by
  have all : ∀ {w' : World}, W.grownBy w' none → W.grownBy w' v.ownBlock ∧ Kept W w' v.ownBlock (n * size) := fun {w'} hg => by
    have hb : ∀ b, b < W.heap.size → w'.heap[b]? = W.heap[b]? := fun b hb => hg.block b hb (by simp)
    refine ⟨⟨hg.os, hg.tape, hg.output, hg.size, fun k hk _ => hb k hk⟩, hg.size, fun b hb' _ => hb b hb', fun b j u _ hu => ?_⟩
    have hlt : b < W.heap.size := by
      rcases Nat.lt_or_ge b W.heap.size with h | h
      · exact h
      · exfalso
        unfold World.cell? at hu
        rw [Array.getElem?_eq_none h] at hu
        simp at hu
    exact (World.cell?_of_block (hb b hlt)).trans hu
  rcases hown.2 with ⟨rfl, rfl⟩ | ⟨g, cap, cur, rfl, hbg, hg, hnc, hcm, hcs, htake⟩
  · obtain ⟨v', w', hr, h2, h3, _, h4⟩ := run_append_own_at (P := Tryz.prog) (w := W) base t ty e i z size bytes ht hi hz hsize hby hzs hsz _ _ _ hown a m c news hl hnews h1 h63 hbytes hbase
    exact ⟨v', w', hr, h2, h3, .inr (fun j hj => h4.elim (fun q => by rw [q] at hj; simp [Value.ownBlock] at hj) (fun q => by rw [q] at hj; exact Nat.le_of_eq (Option.some.inj hj))), (all h3).2⟩
  · by_cases hroom : n + m ≤ cap
    · obtain ⟨w', hr, h2, h3⟩ := run_append_own_spare (P := Tryz.prog) (w := W) base t ty e i size ht hi hsize g n cap xs hown a m c news hl hnews h1 hroom
      refine ⟨_, w', hr, h2, h3, .inl rfl, h3.size, fun b hb hne => h3.block b hb hne, fun b j u hj hu => ?_⟩
      by_cases e' : b = g
      · subst e'
        rw [h2.cellAt j (Nat.lt_of_lt_of_le hj (Nat.mul_le_mul_right _ (Nat.le_add_right _ _))), List.getElem?_append_left (by rw [hown.1]; exact hj), ← hown.cellAt j hj]
        exact hu
      · have hlt : b < W.heap.size := by
          rcases Nat.lt_or_ge b W.heap.size with h | h
          · exact h
          · exfalso
            unfold World.cell? at hu
            rw [Array.getElem?_eq_none h] at hu
            simp at hu
        exact (World.cell?_of_block (h3.block b hlt (fun q => e' (by simpa using q)))).trans hu
    · obtain ⟨v', w', hr, h2, h3⟩ := run_append_arg_grows (P := Tryz.prog) W t ty e i z size bytes ht hi hz hsize hby hzs hsz ⟨g, 0, none⟩ n cap xs hown.1 (hown.cells (g := g) rfl) a m c news hl hnews (by omega) h63 hbytes
      exact ⟨v', w', hr, row_mono h2 hbase, (all h3).1, .inr (fun j hj => (h2.lt j hj).1), (all h3).2⟩
/-- the state of the law: a manager, the rows of those that are open (v1) and of those that are done (v2) -/
def Shr (T U : Tm) : Prop := (∀ j, T.sv.ownBlock = some j → U.sv.ownBlock = some j → T.ss.length ≤ U.ss.length) ∧ (∀ j, T.yv.ownBlock = some j → U.yv.ownBlock = some j → T.ys.length ≤ U.ys.length) ∧ Off T.sv U.yv ∧ Off T.yv U.sv
structure TS (B : Nat) (w0 w : World) (g : Nat) (ms : Mg) (X D : Nat → Prop) (v1 v2 : Value) (os ds : List Tm) : Prop where
  mn : Mn X w g ms
  xb : ∀ i, i < B → X i
  dx : ∀ i, D i → X i
  r1 : RowM w B v1 os
  x1 : ∀ j, v1.ownBlock = some j → X j ∧ ¬ D j
  r2 : RowM w B v2 ds
  x2 : ∀ j, v2.ownBlock = some j → X j ∧ ¬ D j
  ne : Off v1 v2
  eo : ∀ T ∈ os, TOk B w X D T
  ap : ∀ (i j : Nat) (T U : Tm), os[i]? = some T → os[j]? = some U → ¬ i = j → Off T.sv U.sv ∧ Off T.yv U.yv
  ed : ∀ T ∈ ds, THeld w X D T ∧ Off v1 T.sv ∧ Off v1 T.yv ∧ Off v2 T.sv ∧ Off v2 T.yv
  sh : ∀ T ∈ ds, ∀ U ∈ os, Shr T U
  lo : Below B w0 w
  sz : B ≤ w.heap.size
section
variable {B g : Nat} {w0 w w' : World} {ms ms' : Mg} {X X' D D' : Nat → Prop} {v1 v2 v' : Value} {os ds : List Tm}
/-- none of the rows has changed -/
theorem TS.stay (h : TS B w0 w g ms X D v1 v2 os ds) (hk : ∀ j, X j → w'.heap[j]? = w.heap[j]?) (hs : w.heap.size ≤ w'.heap.size) (hM : Mn X' w' g ms') (hX : ∀ j, X j → X' j) (hD : ∀ j, D j → D' j) (hD' : ∀ j, D' j → X' j ∧ (D j ∨ w.heap.size ≤ j)) (hlo : Below B w w') : TS B w0 w' g ms' X' D' v1 v2 os ds := by
  have nd : ∀ {j}, j < w.heap.size → X j ∧ ¬ D j → X' j ∧ ¬ D' j := fun {j} hj hx => ⟨hX j hx.1, fun q => (hD' j q).2.elim hx.2 (fun q => by omega)⟩
  have ans : ∀ {y}, OkA D w y → OkA D' w' y := fun {y} hy => hy.step hD (fun j hj => hk j (h.dx j hj))
  refine ⟨hM, fun i hi => hX i (h.xb i hi), fun i hi => (hD' i hi).1, row_kept h.r1 (fun j hj => hk j (h.x1 j hj).1), fun j hj => nd (h.r1.lt j hj).2 (h.x1 j hj), row_kept h.r2 (fun j hj => hk j (h.x2 j hj).1), fun j hj => nd (h.r2.lt j hj).2 (h.x2 j hj), h.ne, fun T hT => ?_, h.ap, fun T hT => ?_, h.sh, h.lo.trans hlo, Nat.le_trans h.sz hs⟩
  · have q := h.eo T hT
    exact ⟨q.num, row_kept q.rs (fun j hj => hk j (q.xs j hj).1), row_kept q.ry (fun j hj => hk j (q.xy j hj).1), fun j hj => nd (q.rs.lt j hj).2 (q.xs j hj), fun j hj => nd (q.ry.lt j hj).2 (q.xy j hj), fun y hy => ans (q.ans y hy)⟩
  · obtain ⟨q, q1⟩ := h.ed T hT
    have cel : ∀ {v : Value} {n : Nat} {xs : List Value}, Cels w v n xs → (∀ j, v.ownBlock = some j → X j ∧ ¬ D j) → Cels w' v n xs := fun {v n xs} ⟨b, c, e, h1, h2, h3, h4⟩ hx => ⟨b, c, e, h1, h2, Nat.lt_of_lt_of_le h3 hs, fun j u hj => (World.cell?_of_block (hk b (hx b (by rw [e]; rfl)).1)).trans (h4 j u hj)⟩
    exact ⟨⟨q.num, cel q.hs q.xs, cel q.hy q.xy, fun j hj => nd (q.hs.blk j hj) (q.xs j hj), fun j hj => nd (q.hy.blk j hj) (q.xy j hj), fun y hy => ans (q.ans y hy)⟩, q1⟩
/-- new blocks alone -/
theorem TS.below (h : TS B w0 w g ms X D v1 v2 os ds) (hb : Below w.heap.size w w') : TS B w0 w' g ms (fun i => X i ∨ (w.heap.size ≤ i ∧ i < w'.heap.size)) D v1 v2 os ds :=
  h.stay (fun j hj => hb.block j (h.mn.xb j hj)) hb.size (h.mn.news hb) (fun j hj => .inl hj) (fun j hj => hj) (fun j hj => ⟨.inl (h.dx j hj), .inl hj⟩) (hb.mono h.sz)
/-- something was done with the manager -/
theorem TS.did (h : TS B w0 w g ms X D v1 v2 os ds) {Z : Nat → Prop} (hM : Mn (fun j => X j ∨ Z j) w' g ms') (hZ : ∀ j, Z j → w.heap.size ≤ j) (hF : Frm (fun i => ¬ X i) w w') : TS B w0 w' g ms' (fun j => X j ∨ Z j) (fun j => D j ∨ Z j) v1 v2 os ds :=
  h.stay (fun j hj => hF.block j (h.mn.xb j hj) (fun q => q hj)) hF.size hM (fun j hj => .inl hj) (fun j hj => .inl hj) (fun j hj => hj.elim (fun q => ⟨.inl (h.dx j q), .inl q⟩) (fun q => ⟨.inr q, .inr (hZ j q)⟩)) (hF.low h.xb h.sz)
end

theorem flat_setS {T T' : Tm} : ∀ {os : List Tm} {i : Nat}, os[i]? = some T → T'.tx = T.tx → T'.yv = T.yv → (os.set i T').flatMap tmc = (os.flatMap tmc).set (i * 3 + 1) T'.sv
  | [], i, h, _, _ => by simp at h
  | U :: r, 0, h, e1, e2 => by
    obtain rfl : U = T := by simpa using h
    simp [List.flatMap_cons, e1, e2]
  | U :: r, i + 1, h, e1, e2 => by
    have ih := flat_setS (os := r) (i := i) (by simpa using h) e1 e2
    rw [List.set_cons_succ, List.flatMap_cons, List.flatMap_cons, ih, show (i + 1) * 3 + 1 = (tmc U).length + (i * 3 + 1) by simp; omega, List.set_append_right _ _ (by omega)]
    congr 2
    omega
section
variable {B g : Nat} {w0 w w1 : World} {ms ms' : Mg} {X X' D D' : Nat → Prop} {v1 v2 v' : Value} {os ds : List Tm}
/-- the steps of one are more -/
theorem TS.upS (h : TS B w0 w g ms X D v1 v2 os ds) {i : Nat} {T : Tm} (hi : os[i]? = some T) {sv' : Value} {ss' : List Sx} (ho : RowS w1 B sv' ss') (hl : T.ss.length ≤ ss'.length) (hg : w.grownBy w1 T.sv.ownBlock) (hk : Kept w w1 T.sv.ownBlock (T.ss.length * 5)) (hv : sv'.ownBlock = T.sv.ownBlock ∨ ∀ j, sv'.ownBlock = some j → w.heap.size ≤ j) {b1 c1 : Nat} (hv1 : v1 = .slice (some ⟨b1, 0, none⟩) os.length c1) :
    TS B w0 (w1.setCell ⟨b1, i * 3 + 1, none⟩ sv') g ms (fun i => X i ∨ (w.heap.size ≤ i ∧ i < w1.heap.size)) D v1 v2 (os.set i { T with sv := sv', ss := ss' }) ds := by
  have hm := List.mem_of_getElem? hi
  have q := h.eo T hm
  have hil : i < os.length := (List.getElem?_eq_some_iff.1 hi).1
  have hb1 : v1.ownBlock = some b1 := by rw [hv1]; rfl
  have l1 := h.r1.lt b1 hb1
  have n1 : ¬ T.sv.ownBlock = some b1 := own_apart h.r1 q.rs (by decide) b1 hb1
  have hS : (w1.setCell ⟨b1, i * 3 + 1, none⟩ sv').heap.size = w1.heap.size := by simp
  have hw1 : ∀ j, ¬ j = b1 → (w1.setCell ⟨b1, i * 3 + 1, none⟩ sv').heap[j]? = w1.heap[j]? := fun j hj => Below.heap_setCell _ _ _ _ hj
  have hw : ∀ j, j < w.heap.size → ¬ j = b1 → ¬ T.sv.ownBlock = some j → (w1.setCell ⟨b1, i * 3 + 1, none⟩ sv').heap[j]? = w.heap[j]? := fun j hj h1 h2 => (hw1 j h1).trans (hg.block j hj (fun e => h2 e.symm))
  have kp : ∀ {e s n : Nat} {v : Value} {xs : List Value}, w.ownsRow B e s v n xs → Off v1 v → Off T.sv v → (w1.setCell ⟨b1, i * 3 + 1, none⟩ sv').ownsRow B e s v n xs := fun {e s n v xs} hr h1 h2 => row_kept hr (fun j hj => hw j (hr.lt j hj).2 (fun e => h1 b1 hb1 (e ▸ hj)) (fun e => h2 j e hj))
  have hD : ∀ j, D j → (w1.setCell ⟨b1, i * 3 + 1, none⟩ sv').heap[j]? = w.heap[j]? := fun j hj => hw j (h.mn.xb j (h.dx j hj)) (fun e => (h.x1 b1 hb1).2 (e ▸ hj)) (fun e => (q.xs j e).2 hj)
  have xN : ∀ {v : Value} {n : Nat}, (∀ j, v.ownBlock = some j → X j ∧ ¬ D j) → ∀ j, v.ownBlock = some j → (X j ∨ (w.heap.size ≤ j ∧ j < w1.heap.size)) ∧ ¬ D j := fun hx j hj => ⟨.inl (hx j hj).1, (hx j hj).2⟩
  have xS : ∀ j, sv'.ownBlock = some j → (X j ∨ (w.heap.size ≤ j ∧ j < w1.heap.size)) ∧ ¬ D j := fun j hj => by
    rcases hv with e | e
    · exact xN (n := 0) q.xs j (e ▸ hj)
    · exact ⟨.inr ⟨e j hj, (ho.lt j hj).2⟩, fun hd => by have := h.mn.xb j (h.dx j hd); have := e j hj; omega⟩
  have oS : ∀ {v : Value}, (∀ j, v.ownBlock = some j → j < w.heap.size) → Off T.sv v → Off sv' v := fun {v} hv2 ho2 j h1 h2 => by
    rcases hv with e | e
    · exact ho2 j (e ▸ h1) h2
    · have := e j h1; have := hv2 j h2; omega
  have b1S : ¬ sv'.ownBlock = some b1 := fun e => by
    rcases hv with e' | e'
    · exact n1 (e' ▸ e)
    · have := e' b1 e; omega
  have hF : Frm X w (w1.setCell ⟨b1, i * 3 + 1, none⟩ sv') := ⟨hg.os, hg.tape, hg.output, by rw [hS]; exact hg.size, fun j hj hx => hw j hj (fun e => hx (e ▸ (h.x1 b1 hb1).1)) (fun e => hx (q.xs j e).1)⟩
  have hMN := h.mn.turnedN hF
  rw [hS] at hMN
  refine ⟨hMN, fun j hj => .inl (h.xb j hj), fun j hj => .inl (h.dx j hj), ?_, xN (n := 0) h.x1, ?_, xN (n := 0) h.x2, h.ne, fun U hU => ?_, fun a b U V hU hV hab => ?_, fun V hV => ?_, fun V hV U hU => ?_, ?_, ?_⟩
  · have h1 : w1.ownsRow B 71 3 v1 os.length (os.flatMap tmc) := row_kept h.r1 (fun j hj => hg.block j (h.r1.lt j hj).2 (fun e => by rw [hb1] at hj; cases hj; exact n1 e.symm))
    rw [hv1] at h1
    have h2 := (h1.stored (i * 3 + 1) sv').1
    rw [hv1]
    unfold RowM
    rw [List.length_set, flat_setS (T' := { T with sv := sv', ss := ss' }) hi rfl rfl]
    exact h2
  · exact kp h.r2 h.ne (own_apart q.rs h.r2 (by decide))
  · obtain ⟨j, hj⟩ := List.mem_iff_getElem?.1 hU
    by_cases e : j = i
    · subst e
      rw [List.getElem?_set_self hil] at hj
      cases hj
      refine ⟨q.num, ?_, kp q.ry (own_apart h.r1 q.ry (by decide)) (own_apart q.rs q.ry (by decide)), xS, xN (n := 0) q.xy, fun y hy => (q.ans y hy).step (fun _ hd => hd) hD⟩
      exact row_kept ho (fun j hj => hw1 j (fun e => b1S (e ▸ hj)))
    · rw [List.getElem?_set_ne (fun q => e q.symm)] at hj
      have q' := h.eo U (List.mem_of_getElem? hj)
      exact ⟨q'.num, kp q'.rs (own_apart h.r1 q'.rs (by decide)) (h.ap i j T U hi hj (fun q => e q.symm)).1, kp q'.ry (own_apart h.r1 q'.ry (by decide)) (own_apart q.rs q'.ry (by decide)), xN (n := 0) q'.xs, xN (n := 0) q'.xy, fun y hy => (q'.ans y hy).step (fun _ hd => hd) hD⟩
  · have key : ∀ {c : Nat} {Z : Tm}, (os.set i { T with sv := sv', ss := ss' })[c]? = some Z → (c = i ∧ Z = { T with sv := sv', ss := ss' }) ∨ (¬ c = i ∧ os[c]? = some Z) := fun {c Z} hc => by
      by_cases e : c = i
      · subst e
        rw [List.getElem?_set_self hil] at hc
        exact .inl ⟨rfl, (Option.some.inj hc).symm⟩
      · rw [List.getElem?_set_ne (fun q => e q.symm)] at hc
        exact .inr ⟨e, hc⟩
    rcases key hU with ⟨rfl, rfl⟩ | ⟨ea, hU'⟩ <;> rcases key hV with ⟨rfl, rfl⟩ | ⟨eb, hV'⟩
    · exact absurd rfl hab
    · have h2 := h.ap a b T V hi hV' hab
      exact ⟨oS (fun j hj => ((h.eo V (List.mem_of_getElem? hV')).rs.lt j hj).2) h2.1, h2.2⟩
    · have h2 := h.ap b a T U hi hU' (fun e => hab e.symm)
      exact ⟨(oS (fun j hj => ((h.eo U (List.mem_of_getElem? hU')).rs.lt j hj).2) h2.1).symm, h2.2.symm⟩
    · exact h.ap a b U V hU' hV' hab
  · obtain ⟨p, p1, p2, p3, p4⟩ := h.ed V hV
    have s := h.sh V hV T hm
    have cel : ∀ {v : Value} {n : Nat} {xs : List Value}, Cels w v n xs → Off v1 v → (v.ownBlock = T.sv.ownBlock → xs.length ≤ T.ss.length * 5) → Cels (w1.setCell ⟨b1, i * 3 + 1, none⟩ sv') v n xs := fun {v n xs} hc h1 h2 => by
      obtain ⟨b, c, e, c1, c2, c3, c4⟩ := hc.kept hk h2
      exact ⟨b, c, e, c1, c2, by rw [hS]; exact c3, fun j u hj => (World.cell?_of_block (hw1 b (fun e' => h1 b1 hb1 (by rw [e, ← e']; rfl)))).trans (c4 j u hj)⟩
    refine ⟨⟨p.num, cel p.hs p1 (fun e => ?_), cel p.hy p2 (fun e => ?_), xN (n := 0) p.xs, xN (n := 0) p.xy, fun y hy => (p.ans y hy).step (fun _ hd => hd) hD⟩, p1, p2, p3, p4⟩
    · obtain ⟨b, c, e', _⟩ := p.hs
      have e1 : V.sv.ownBlock = some b := by rw [e']; rfl
      rw [sxs_len]
      exact Nat.mul_le_mul_right _ (s.1 b e1 (by rw [← e]; exact e1))
    · obtain ⟨b, c, e', _⟩ := p.hy
      have e1 : V.yv.ownBlock = some b := by rw [e']; rfl
      exact absurd (by rw [← e]; exact e1) (s.2.2.2 b e1)
  · obtain ⟨p, _⟩ := h.ed V hV
    have s := h.sh V hV T hm
    obtain ⟨j, hj⟩ := List.mem_iff_getElem?.1 hU
    by_cases e : j = i
    · subst e
      rw [List.getElem?_set_self hil] at hj
      cases hj
      refine ⟨fun j h1 h2 => ?_, s.2.1, s.2.2.1, (oS (fun j hj => p.hy.blk j hj) s.2.2.2.symm).symm⟩
      rcases hv with e | e
      · exact Nat.le_trans (s.1 j h1 (e ▸ h2)) hl
      · have := e j h2; have := p.hs.blk j h1; omega
    · rw [List.getElem?_set_ne (fun q => e q.symm)] at hj
      exact h.sh V hV U (List.mem_of_getElem? hj)
  · exact h.lo.trans (((Below.refl B w).grown hg h.sz (fun k hk => (q.rs.lt k hk).1)).setCell l1.1 _)
  · rw [hS]; exact Nat.le_trans h.sz hg.size
end

theorem flat_setY {T T' : Tm} : ∀ {os : List Tm} {i : Nat}, os[i]? = some T → T'.tx = T.tx → T'.sv = T.sv → (os.set i T').flatMap tmc = (os.flatMap tmc).set (i * 3 + 2) T'.yv
  | [], i, h, _, _ => by simp at h
  | U :: r, 0, h, e1, e2 => by
    obtain rfl : U = T := by simpa using h
    simp [List.flatMap_cons, e1, e2]
  | U :: r, i + 1, h, e1, e2 => by
    have ih := flat_setY (os := r) (i := i) (by simpa using h) e1 e2
    rw [List.set_cons_succ, List.flatMap_cons, List.flatMap_cons, ih, show (i + 1) * 3 + 2 = (tmc U).length + (i * 3 + 2) by simp; omega, List.set_append_right _ _ (by omega)]
    congr 2
    omega
section
variable {B g : Nat} {w0 w w1 : World} {ms ms' : Mg} {X X' D D' : Nat → Prop} {v1 v2 v' : Value} {os ds : List Tm}
/-- the answers of one are more -/
theorem TS.upY (h : TS B w0 w g ms X D v1 v2 os ds) {i : Nat} {T : Tm} (hi : os[i]? = some T) {yv' : Value} {ys' : List Ra} (ho : RowY w1 B yv' ys') (hl : T.ys.length ≤ ys'.length) (hans : ∀ y ∈ ys', OkA D w y) (hg : w.grownBy w1 T.yv.ownBlock) (hk : Kept w w1 T.yv.ownBlock (T.ys.length * 7)) (hv : yv'.ownBlock = T.yv.ownBlock ∨ ∀ j, yv'.ownBlock = some j → w.heap.size ≤ j) {b1 c1 : Nat} (hv1 : v1 = .slice (some ⟨b1, 0, none⟩) os.length c1) :
    TS B w0 (w1.setCell ⟨b1, i * 3 + 2, none⟩ yv') g ms (fun i => X i ∨ (w.heap.size ≤ i ∧ i < w1.heap.size)) D v1 v2 (os.set i { T with yv := yv', ys := ys' }) ds := by
  have hm := List.mem_of_getElem? hi
  have q := h.eo T hm
  have hil : i < os.length := (List.getElem?_eq_some_iff.1 hi).1
  have hb1 : v1.ownBlock = some b1 := by rw [hv1]; rfl
  have l1 := h.r1.lt b1 hb1
  have n1 : ¬ T.yv.ownBlock = some b1 := own_apart h.r1 q.ry (by decide) b1 hb1
  have hS : (w1.setCell ⟨b1, i * 3 + 2, none⟩ yv').heap.size = w1.heap.size := by simp
  have hw1 : ∀ j, ¬ j = b1 → (w1.setCell ⟨b1, i * 3 + 2, none⟩ yv').heap[j]? = w1.heap[j]? := fun j hj => Below.heap_setCell _ _ _ _ hj
  have hw : ∀ j, j < w.heap.size → ¬ j = b1 → ¬ T.yv.ownBlock = some j → (w1.setCell ⟨b1, i * 3 + 2, none⟩ yv').heap[j]? = w.heap[j]? := fun j hj h1 h2 => (hw1 j h1).trans (hg.block j hj (fun e => h2 e.symm))
  have kp : ∀ {e s n : Nat} {v : Value} {xs : List Value}, w.ownsRow B e s v n xs → Off v1 v → Off T.yv v → (w1.setCell ⟨b1, i * 3 + 2, none⟩ yv').ownsRow B e s v n xs := fun {e s n v xs} hr h1 h2 => row_kept hr (fun j hj => hw j (hr.lt j hj).2 (fun e => h1 b1 hb1 (e ▸ hj)) (fun e => h2 j e hj))
  have hD : ∀ j, D j → (w1.setCell ⟨b1, i * 3 + 2, none⟩ yv').heap[j]? = w.heap[j]? := fun j hj => hw j (h.mn.xb j (h.dx j hj)) (fun e => (h.x1 b1 hb1).2 (e ▸ hj)) (fun e => (q.xy j e).2 hj)
  have xN : ∀ {v : Value} {n : Nat}, (∀ j, v.ownBlock = some j → X j ∧ ¬ D j) → ∀ j, v.ownBlock = some j → (X j ∨ (w.heap.size ≤ j ∧ j < w1.heap.size)) ∧ ¬ D j := fun hx j hj => ⟨.inl (hx j hj).1, (hx j hj).2⟩
  have xS : ∀ j, yv'.ownBlock = some j → (X j ∨ (w.heap.size ≤ j ∧ j < w1.heap.size)) ∧ ¬ D j := fun j hj => by
    rcases hv with e | e
    · exact xN (n := 0) q.xy j (e ▸ hj)
    · exact ⟨.inr ⟨e j hj, (ho.lt j hj).2⟩, fun hd => by have := h.mn.xb j (h.dx j hd); have := e j hj; omega⟩
  have oS : ∀ {v : Value}, (∀ j, v.ownBlock = some j → j < w.heap.size) → Off T.yv v → Off yv' v := fun {v} hv2 ho2 j h1 h2 => by
    rcases hv with e | e
    · exact ho2 j (e ▸ h1) h2
    · have := e j h1; have := hv2 j h2; omega
  have b1S : ¬ yv'.ownBlock = some b1 := fun e => by
    rcases hv with e' | e'
    · exact n1 (e' ▸ e)
    · have := e' b1 e; omega
  have hF : Frm X w (w1.setCell ⟨b1, i * 3 + 2, none⟩ yv') := ⟨hg.os, hg.tape, hg.output, by rw [hS]; exact hg.size, fun j hj hx => hw j hj (fun e => hx (e ▸ (h.x1 b1 hb1).1)) (fun e => hx (q.xy j e).1)⟩
  have hMN := h.mn.turnedN hF
  rw [hS] at hMN
  refine ⟨hMN, fun j hj => .inl (h.xb j hj), fun j hj => .inl (h.dx j hj), ?_, xN (n := 0) h.x1, ?_, xN (n := 0) h.x2, h.ne, fun U hU => ?_, fun a b U V hU hV hab => ?_, fun V hV => ?_, fun V hV U hU => ?_, ?_, ?_⟩
  · have h1 : w1.ownsRow B 71 3 v1 os.length (os.flatMap tmc) := row_kept h.r1 (fun j hj => hg.block j (h.r1.lt j hj).2 (fun e => by rw [hb1] at hj; cases hj; exact n1 e.symm))
    rw [hv1] at h1
    have h2 := (h1.stored (i * 3 + 2) yv').1
    rw [hv1]
    unfold RowM
    rw [List.length_set, flat_setY (T' := { T with yv := yv', ys := ys' }) hi rfl rfl]
    exact h2
  · exact kp h.r2 h.ne (own_apart q.ry h.r2 (by decide))
  · obtain ⟨j, hj⟩ := List.mem_iff_getElem?.1 hU
    by_cases e : j = i
    · subst e
      rw [List.getElem?_set_self hil] at hj
      cases hj
      refine ⟨q.num, kp q.rs (own_apart h.r1 q.rs (by decide)) (own_apart q.ry q.rs (by decide)), ?_, xN (n := 0) q.xs, xS, fun y hy => (hans y hy).step (fun _ hd => hd) hD⟩
      exact row_kept ho (fun j hj => hw1 j (fun e => b1S (e ▸ hj)))
    · rw [List.getElem?_set_ne (fun q => e q.symm)] at hj
      have q' := h.eo U (List.mem_of_getElem? hj)
      exact ⟨q'.num, kp q'.rs (own_apart h.r1 q'.rs (by decide)) (own_apart q.ry q'.rs (by decide)), kp q'.ry (own_apart h.r1 q'.ry (by decide)) (h.ap i j T U hi hj (fun q => e q.symm)).2, xN (n := 0) q'.xs, xN (n := 0) q'.xy, fun y hy => (q'.ans y hy).step (fun _ hd => hd) hD⟩
  · have key : ∀ {c : Nat} {Z : Tm}, (os.set i { T with yv := yv', ys := ys' })[c]? = some Z → (c = i ∧ Z = { T with yv := yv', ys := ys' }) ∨ (¬ c = i ∧ os[c]? = some Z) := fun {c Z} hc => by
      by_cases e : c = i
      · subst e
        rw [List.getElem?_set_self hil] at hc
        exact .inl ⟨rfl, (Option.some.inj hc).symm⟩
      · rw [List.getElem?_set_ne (fun q => e q.symm)] at hc
        exact .inr ⟨e, hc⟩
    rcases key hU with ⟨rfl, rfl⟩ | ⟨ea, hU'⟩ <;> rcases key hV with ⟨rfl, rfl⟩ | ⟨eb, hV'⟩
    · exact absurd rfl hab
    · have h2 := h.ap a b T V hi hV' hab
      exact ⟨h2.1, oS (fun j hj => ((h.eo V (List.mem_of_getElem? hV')).ry.lt j hj).2) h2.2⟩
    · have h2 := h.ap b a T U hi hU' (fun e => hab e.symm)
      exact ⟨h2.1.symm, (oS (fun j hj => ((h.eo U (List.mem_of_getElem? hU')).ry.lt j hj).2) h2.2).symm⟩
    · exact h.ap a b U V hU' hV' hab
  · obtain ⟨p, p1, p2, p3, p4⟩ := h.ed V hV
    have s := h.sh V hV T hm
    have cel : ∀ {v : Value} {n : Nat} {xs : List Value}, Cels w v n xs → Off v1 v → (v.ownBlock = T.yv.ownBlock → xs.length ≤ T.ys.length * 7) → Cels (w1.setCell ⟨b1, i * 3 + 2, none⟩ yv') v n xs := fun {v n xs} hc h1 h2 => by
      obtain ⟨b, c, e, c1, c2, c3, c4⟩ := hc.kept hk h2
      exact ⟨b, c, e, c1, c2, by rw [hS]; exact c3, fun j u hj => (World.cell?_of_block (hw1 b (fun e' => h1 b1 hb1 (by rw [e, ← e']; rfl)))).trans (c4 j u hj)⟩
    refine ⟨⟨p.num, cel p.hs p1 (fun e => ?_), cel p.hy p2 (fun e => ?_), xN (n := 0) p.xs, xN (n := 0) p.xy, fun y hy => (p.ans y hy).step (fun _ hd => hd) hD⟩, p1, p2, p3, p4⟩
    · obtain ⟨b, c, e', _⟩ := p.hs
      have e1 : V.sv.ownBlock = some b := by rw [e']; rfl
      exact absurd (by rw [← e]; exact e1) (s.2.2.1 b e1)
    · obtain ⟨b, c, e', _⟩ := p.hy
      have e1 : V.yv.ownBlock = some b := by rw [e']; rfl
      rw [ras_len]
      exact Nat.mul_le_mul_right _ (s.2.1 b e1 (by rw [← e]; exact e1))
  · obtain ⟨p, _⟩ := h.ed V hV
    have s := h.sh V hV T hm
    obtain ⟨j, hj⟩ := List.mem_iff_getElem?.1 hU
    by_cases e : j = i
    · subst e
      rw [List.getElem?_set_self hil] at hj
      cases hj
      refine ⟨s.1, fun j h1 h2 => ?_, (oS (fun j hj => p.hs.blk j hj) s.2.2.1.symm).symm, s.2.2.2⟩
      rcases hv with e | e
      · exact Nat.le_trans (s.2.1 j h1 (e ▸ h2)) hl
      · have := e j h2; have := p.hy.blk j h1; omega
    · rw [List.getElem?_set_ne (fun q => e q.symm)] at hj
      exact h.sh V hV U (List.mem_of_getElem? hj)
  · exact h.lo.trans (((Below.refl B w).grown hg h.sz (fun k hk => (q.ry.lt k hk).1)).setCell l1.1 _)
  · rw [hS]; exact Nat.le_trans h.sz hg.size
end
section
variable {B g : Nat} {w0 w w1 w2 : World} {ms ms' : Mg} {X X' D D' : Nat → Prop} {v1 v2 v' : Value} {os ds : List Tm}
/-- a new one -/
theorem TS.push (h : TS B w0 w g ms X D v1 v2 os ds) (hb : Below w.heap.size w w1) {tx : Int} (hT : i64B tx) {sv yv : Value} {ss : List Sx} {ys : List Ra} (hs : RowS w1 w.heap.size sv ss) (hy : RowY w1 w.heap.size yv ys) (ha : ∀ y ∈ ys, OkA D w y) (ho : RowM w2 B v' (os ++ [⟨tx, sv, yv, ss, ys⟩])) (hg : w1.grownBy w2 v1.ownBlock) (hv : v'.ownBlock = v1.ownBlock ∨ ∀ j, v'.ownBlock = some j → w1.heap.size ≤ j) :
    TS B w0 w2 g ms (fun i => X i ∨ (w.heap.size ≤ i ∧ i < w2.heap.size)) D v' v2 (os ++ [⟨tx, sv, yv, ss, ys⟩]) ds := by
  have hsz := Nat.le_trans hb.size hg.size
  have hw : ∀ j, j < w.heap.size → ¬ v1.ownBlock = some j → w2.heap[j]? = w.heap[j]? := fun j hj h1 => (hg.block j (Nat.lt_of_lt_of_le hj hb.size) (fun e => h1 e.symm)).trans (hb.block j hj)
  have kp : ∀ {e s n : Nat} {v : Value} {xs : List Value}, w.ownsRow B e s v n xs → Off v1 v → w2.ownsRow B e s v n xs := fun {e s n v xs} hr h1 => row_kept hr (fun j hj => hw j (hr.lt j hj).2 (fun e => h1 j e hj))
  have hD : ∀ j, D j → w2.heap[j]? = w.heap[j]? := fun j hj => hw j (h.mn.xb j (h.dx j hj)) (fun e => (h.x1 j e).2 hj)
  have xN : ∀ {v : Value}, (∀ j, v.ownBlock = some j → X j ∧ ¬ D j) → ∀ j, v.ownBlock = some j → (X j ∨ (w.heap.size ≤ j ∧ j < w2.heap.size)) ∧ ¬ D j := fun hx j hj => ⟨.inl (hx j hj).1, (hx j hj).2⟩
  have nD : ∀ {j}, w.heap.size ≤ j → ¬ D j := fun {j} hj hd => by have := h.mn.xb j (h.dx j hd); omega
  have xV : ∀ j, v'.ownBlock = some j → (X j ∨ (w.heap.size ≤ j ∧ j < w2.heap.size)) ∧ ¬ D j := fun j hj => by
    rcases hv with e | e
    · exact xN h.x1 j (e ▸ hj)
    · exact ⟨.inr ⟨Nat.le_trans hb.size (e j hj), (ho.lt j hj).2⟩, nD (Nat.le_trans hb.size (e j hj))⟩
  have oV : ∀ {v : Value}, (∀ j, v.ownBlock = some j → j < w.heap.size) → Off v1 v → Off v' v := fun {v} hv2 ho2 j h1 h2 => by
    rcases hv with e | e
    · exact ho2 j (e ▸ h1) h2
    · have := e j h1; have := hv2 j h2; have := hb.size; omega
  have nw : ∀ {e s n : Nat} {v : Value} {xs : List Value}, w1.ownsRow w.heap.size e s v n xs → w2.ownsRow B e s v n xs := fun {e s n v xs} hr => row_mono (row_kept hr (fun j hj => hg.block j (hr.lt j hj).2 (fun e => by have := (h.r1.lt j e.symm).2; have := (hr.lt j hj).1; omega))) h.sz
  have xW : ∀ {e s n : Nat} {v : Value} {xs : List Value}, w1.ownsRow w.heap.size e s v n xs → ∀ j, v.ownBlock = some j → (X j ∨ (w.heap.size ≤ j ∧ j < w2.heap.size)) ∧ ¬ D j := fun hr j hj => ⟨.inr ⟨(hr.lt j hj).1, Nat.lt_of_lt_of_le (hr.lt j hj).2 hg.size⟩, nD (hr.lt j hj).1⟩
  have oW : ∀ {e s n : Nat} {v u : Value} {xs : List Value}, w1.ownsRow w.heap.size e s v n xs → (∀ j, u.ownBlock = some j → j < w.heap.size) → Off u v := fun hr hu j h1 h2 => by have := hu j h1; have := (hr.lt j h2).1; omega
  have hF : Frm X w w2 := ⟨by rw [hg.os]; exact hb.os, by rw [hg.tape]; exact hb.tape, by rw [hg.output]; exact hb.output, hsz, fun j hj hx => hw j hj (fun e => hx (h.x1 j e).1)⟩
  refine ⟨h.mn.turnedN hF, fun j hj => .inl (h.xb j hj), fun j hj => .inl (h.dx j hj), ho, xV, kp h.r2 h.ne, xN h.x2, oV (fun j hj => (h.r2.lt j hj).2) h.ne, fun U hU => ?_, fun a b U V hU hV hab => ?_, fun V hV => ?_, fun V hV U hU => ?_, ?_, Nat.le_trans h.sz hsz⟩
  · rcases List.mem_append.1 hU with hU | hU
    · have q := h.eo U hU
      exact ⟨q.num, kp q.rs (own_apart h.r1 q.rs (by decide)), kp q.ry (own_apart h.r1 q.ry (by decide)), xN q.xs, xN q.xy, fun y hy' => (q.ans y hy').step (fun _ hd => hd) hD⟩
    · rw [List.mem_singleton.1 hU]
      exact ⟨hT, nw hs, nw hy, xW hs, xW hy, fun y hy' => (ha y hy').step (fun _ hd => hd) hD⟩
  · have key : ∀ {c : Nat} {Z : Tm}, (os ++ [(⟨tx, sv, yv, ss, ys⟩ : Tm)])[c]? = some Z → (c = os.length ∧ Z = ⟨tx, sv, yv, ss, ys⟩) ∨ (c < os.length ∧ os[c]? = some Z) := fun {c Z} hc => by
      rcases Nat.lt_or_ge c os.length with hl | hl
      · rw [List.getElem?_append_left hl] at hc
        exact .inr ⟨hl, hc⟩
      · rw [List.getElem?_append_right hl] at hc
        have : c - os.length = 0 := by
          have := (List.getElem?_eq_some_iff.1 hc).1
          simp at this
          omega
        rw [this] at hc
        exact .inl ⟨by omega, by simpa using hc.symm⟩
    rcases key hU with ⟨rfl, rfl⟩ | ⟨ea, hU'⟩ <;> rcases key hV with ⟨eb, rfl⟩ | ⟨eb, hV'⟩
    · exact absurd eb.symm hab
    · have q := h.eo V (List.mem_of_getElem? hV')
      exact ⟨(oW hs (fun j hj => (q.rs.lt j hj).2)).symm, (oW hy (fun j hj => (q.ry.lt j hj).2)).symm⟩
    · have q := h.eo U (List.mem_of_getElem? hU')
      exact ⟨oW hs (fun j hj => (q.rs.lt j hj).2), oW hy (fun j hj => (q.ry.lt j hj).2)⟩
    · exact h.ap a b U V hU' hV' hab
  · obtain ⟨p, p1, p2, p3, p4⟩ := h.ed V hV
    have cel : ∀ {v : Value} {n : Nat} {xs : List Value}, Cels w v n xs → Off v1 v → Cels w2 v n xs := fun {v n xs} ⟨b, c, e, c1, c2, c3, c4⟩ h1 => ⟨b, c, e, c1, c2, Nat.lt_of_lt_of_le c3 hsz, fun j u hj => (World.cell?_of_block (hw b c3 (fun e' => h1 b e' (by rw [e]; rfl)))).trans (c4 j u hj)⟩
    exact ⟨⟨p.num, cel p.hs p1, cel p.hy p2, xN p.xs, xN p.xy, fun y hy' => (p.ans y hy').step (fun _ hd => hd) hD⟩, oV (fun j hj => p.hs.blk j hj) p1, oV (fun j hj => p.hy.blk j hj) p2, p3, p4⟩
  · obtain ⟨p, _⟩ := h.ed V hV
    rcases List.mem_append.1 hU with hU | hU
    · exact h.sh V hV U hU
    · rw [List.mem_singleton.1 hU]
      refine ⟨fun j h1 h2 => ?_, fun j h1 h2 => ?_, oW hy (fun j hj => p.hs.blk j hj), oW hs (fun j hj => p.hy.blk j hj)⟩
      · exact absurd h2 (oW hs (fun j hj => p.hs.blk j hj) j h1)
      · exact absurd h2 (oW hy (fun j hj => p.hy.blk j hj) j h1)
  · exact (h.lo.trans (hb.mono h.sz)).trans ((Below.refl B w1).grown hg (Nat.le_trans h.sz hb.size) (fun k hk => (h.r1.lt k hk).1))
/-- one is done -/
theorem TS.pushD (h : TS B w0 w g ms X D v1 v2 os ds) (hb : Below w.heap.size w w1) {i : Nat} {T : Tm} (hi : os[i]? = some T) (hl1 : 0 < T.ss.length) (hl2 : 0 < T.ys.length) (ho : RowM w2 B v' (ds ++ [T])) (hg : w1.grownBy w2 v2.ownBlock) (hv : v'.ownBlock = v2.ownBlock ∨ ∀ j, v'.ownBlock = some j → w1.heap.size ≤ j) :
    TS B w0 w2 g ms (fun i => X i ∨ (w.heap.size ≤ i ∧ i < w2.heap.size)) D v1 v' os (ds ++ [T]) := by
  have hm := List.mem_of_getElem? hi
  have qT := h.eo T hm
  have hsz := Nat.le_trans hb.size hg.size
  have hw : ∀ j, j < w.heap.size → ¬ v2.ownBlock = some j → w2.heap[j]? = w.heap[j]? := fun j hj h1 => (hg.block j (Nat.lt_of_lt_of_le hj hb.size) (fun e => h1 e.symm)).trans (hb.block j hj)
  have kp : ∀ {e s n : Nat} {v : Value} {xs : List Value}, w.ownsRow B e s v n xs → Off v2 v → w2.ownsRow B e s v n xs := fun {e s n v xs} hr h1 => row_kept hr (fun j hj => hw j (hr.lt j hj).2 (fun e => h1 j e hj))
  have hD : ∀ j, D j → w2.heap[j]? = w.heap[j]? := fun j hj => hw j (h.mn.xb j (h.dx j hj)) (fun e => (h.x2 j e).2 hj)
  have xN : ∀ {v : Value}, (∀ j, v.ownBlock = some j → X j ∧ ¬ D j) → ∀ j, v.ownBlock = some j → (X j ∨ (w.heap.size ≤ j ∧ j < w2.heap.size)) ∧ ¬ D j := fun hx j hj => ⟨.inl (hx j hj).1, (hx j hj).2⟩
  have nD : ∀ {j}, w.heap.size ≤ j → ¬ D j := fun {j} hj hd => by have := h.mn.xb j (h.dx j hd); omega
  have xV : ∀ j, v'.ownBlock = some j → (X j ∨ (w.heap.size ≤ j ∧ j < w2.heap.size)) ∧ ¬ D j := fun j hj => by
    rcases hv with e | e
    · exact xN h.x2 j (e ▸ hj)
    · exact ⟨.inr ⟨Nat.le_trans hb.size (e j hj), (ho.lt j hj).2⟩, nD (Nat.le_trans hb.size (e j hj))⟩
  have oV : ∀ {v : Value}, (∀ j, v.ownBlock = some j → j < w.heap.size) → Off v2 v → Off v' v := fun {v} hv2 ho2 j h1 h2 => by
    rcases hv with e | e
    · exact ho2 j (e ▸ h1) h2
    · have := e j h1; have := hv2 j h2; have := hb.size; omega
  have hF : Frm X w w2 := ⟨by rw [hg.os]; exact hb.os, by rw [hg.tape]; exact hb.tape, by rw [hg.output]; exact hb.output, hsz, fun j hj hx => hw j hj (fun e => hx (h.x2 j e).1)⟩
  have s2 : ∀ {U}, U ∈ os → Off v2 U.sv ∧ Off v2 U.yv := fun {U} hU => ⟨own_apart h.r2 (h.eo U hU).rs (by decide), own_apart h.r2 (h.eo U hU).ry (by decide)⟩
  have cel : ∀ {v : Value} {n : Nat} {xs : List Value}, Cels w v n xs → Off v2 v → Cels w2 v n xs := fun {v n xs} ⟨b, c, e, c1, c2, c3, c4⟩ h1 => ⟨b, c, e, c1, c2, Nat.lt_of_lt_of_le c3 hsz, fun j u hj => (World.cell?_of_block (hw b c3 (fun e' => h1 b e' (by rw [e]; rfl)))).trans (c4 j u hj)⟩
  have hH := qT.held hl1 hl2
  refine ⟨h.mn.turnedN hF, fun j hj => .inl (h.xb j hj), fun j hj => .inl (h.dx j hj), kp h.r1 h.ne.symm, xN h.x1, ho, xV, (oV (fun j hj => (h.r1.lt j hj).2) h.ne.symm).symm, fun U hU => ?_, h.ap, fun V hV => ?_, fun V hV U hU => ?_, ?_, Nat.le_trans h.sz hsz⟩
  · have q := h.eo U hU
    exact ⟨q.num, kp q.rs (s2 hU).1, kp q.ry (s2 hU).2, xN q.xs, xN q.xy, fun y hy' => (q.ans y hy').step (fun _ hd => hd) hD⟩
  · rcases List.mem_append.1 hV with hV | hV
    · obtain ⟨p, p1, p2, p3, p4⟩ := h.ed V hV
      exact ⟨⟨p.num, cel p.hs p3, cel p.hy p4, xN p.xs, xN p.xy, fun y hy' => (p.ans y hy').step (fun _ hd => hd) hD⟩, p1, p2, oV (fun j hj => p.hs.blk j hj) p3, oV (fun j hj => p.hy.blk j hj) p4⟩
    · rw [List.mem_singleton.1 hV]
      exact ⟨⟨hH.num, cel hH.hs (s2 hm).1, cel hH.hy (s2 hm).2, xN hH.xs, xN hH.xy, fun y hy' => (hH.ans y hy').step (fun _ hd => hd) hD⟩, own_apart h.r1 qT.rs (by decide), own_apart h.r1 qT.ry (by decide), oV (fun j hj => hH.hs.blk j hj) (s2 hm).1, oV (fun j hj => hH.hy.blk j hj) (s2 hm).2⟩
  · rcases List.mem_append.1 hV with hV | hV
    · exact h.sh V hV U hU
    · rw [List.mem_singleton.1 hV]
      have qU := h.eo U hU
      refine ⟨fun j h1 h2 => ?_, fun j h1 h2 => ?_, own_apart qT.rs qU.ry (by decide), own_apart qT.ry qU.rs (by decide)⟩
      all_goals
        obtain ⟨c, hc⟩ := List.mem_iff_getElem?.1 hU
        by_cases e : i = c
        · subst e
          rw [hi] at hc
          cases hc
          exact Nat.le_refl _
        · first | exact absurd h2 ((h.ap i c T U hi hc e).1 j h1) | exact absurd h2 ((h.ap i c T U hi hc e).2 j h1)
  · exact (h.lo.trans (hb.mono h.sz)).trans ((Below.refl B w1).grown hg (Nat.le_trans h.sz hb.size) (fun k hk => (h.r2.lt k hk).1))
end
end Go.Proofs.YtlkmcbelmldleaaGreat
/- the document's Get and Scan of plain entries -/
namespace Go.Proofs.YtlkmcbelmldleaaGreat
open Go.RowKit
set_option maxRecDepth 40000
set_option linter.unusedVariables false
set_option linter.unusedSimpArgs false
set_option maxHeartbeats 4000000 in
theorem rget54_any (a : Option Addr) (len cap : Nat) (l : List Pr) (key : ByteArray) (w : World) (hL : IsP w a len cap l) :
    Calls Tryz.prog 54 #[.slice a len cap, .string key] w fun e w' => e = .returned (.tuple #[.string (valP (getP l key)).1, .bool (valP (getP l key)).2]) ∧ Below w.heap.size w w' := by
  have HL := hide hL
  have HLN := hide hL.1
  have hcm : cap ≤ 9223372036854775807 := hL.2.2.1
  have hcap := hL.2.1
  have HB0 := hide (Below.refl w.heap.size w)
  have HR : Hid (getP l key = getP (l.drop 0) key) := hide rfl
  generalize getP l key = R at *
  clear hL
  go_enter Tryz.func54, Tryz.ntmps54
  go_wp2
  go_loopw [10] (fun v10 wr => ∃ (k : Nat), k ≤ len ∧ v10 = .int .i64 (k : Nat) ∧ Hid (R = getP (l.drop k) key ∧ Below w.heap.size w wr)) (fun v10 _ => len - (intOf v10).toNat)
  case atStart => exact ⟨0, Nat.zero_le _, rfl, hide ⟨HR.out, HB0.out⟩⟩
  case round =>
    obtain ⟨k, hk, rfl, HI⟩ := hrel
    clear HB0
    by_cases hlt : k < len
    · obtain ⟨b, off, rfl, hbs, z0, z1⟩ := (HL.out.below HI.out.2).2.2.2 k hlt
      have HDR : Hid (l.drop k = l.getD k Pr0 :: l.drop (k + 1)) := hide (drop_getD' l k (by rw [HLN.out]; exact hlt))
      generalize l.getD k Pr0 = p at *
      obtain ⟨y1, y2⟩ := p
      dsimp only at z0 z1
      have hw1 : IntKind.i64.wrap ((k : Int) + 1) = (k : Int) + 1 := wr64' (by omega) (by omega)
      have hi4 : (0 : Int) ≤ (k : Int) := by omega
      have hiI : (k : Int) < (len : Int) := by omega
      have HBp : Hid (Below w.heap.size w (wr.alloc (.cells #[.string y1, .string y2] 62))) := hide (HI.out.2.alloc HI.out.2.size _)
      have HRD : Hid (R = if y1.toList = key.toList then some y2 else getP (l.drop (k + 1)) key) := hide (by
        rw [HI.out.1, HDR.out, getP_cons])
      clear HI HDR
      cases he : (y1.toList == key.toList)
      · have HRn : Hid (R = getP (l.drop (k + 1)) key) := hide (by rw [HRD.out, if_neg (by simpa using he)])
        go_wp2
        go_roundw
        case rel => exact ⟨k + 1, by omega, by simp, hide ⟨HRn.out, HBp.out⟩⟩
        case measure => simp [intOf]; omega
      · have HRn : Hid (R = some y2) := hide (by rw [HRD.out, if_pos (by simpa using he)])
        go_wp2
        go_ret2
        exact ⟨by rw [HRn.out]; rfl, HBp.out⟩
    · obtain rfl : k = len := by omega
      have hkI : ¬ (k : Int) < (k : Int) := by omega
      have HE : Hid (R = none) := hide (by rw [HI.out.1, List.drop_of_length_le (by rw [HLN.out]; exact Nat.le_refl _)]; rfl)
      go_wp2
      go_ret2
      exact ⟨by rw [HE.out]; rfl, HI.out.2⟩
set_option maxHeartbeats 4000000 in
theorem rscan55_any (a : Option Addr) (len cap : Nat) (l : List Pr) (fr to : ByteArray) (w : World) (hL : IsP w a len cap l) (hlen : len ≤ 4000000) :
    Calls Tryz.prog 55 #[.slice a len cap, .string fr, .string to, .int .i64 1073741824] w fun e w' => ∃ v, e = .returned (.tuple #[v, .int .i64 0]) ∧ w'.ownsRow w.heap.size 62 2 v (spanP l fr to).length ((spanP l fr to).flatMap prc) ∧ Below w.heap.size w w' := by
  have HL := hide hL
  have HLN := hide hL.1
  have hcm : cap ≤ 9223372036854775807 := hL.2.2.1
  have hcap := hL.2.1
  have HLE := hide hlen
  have HB0 := hide (Below.refl w.heap.size w)
  have HR : Hid (spanP l fr to = [] ++ spanP (l.drop 0) fr to) := hide rfl
  generalize spanP l fr to = R at *
  clear hL hlen
  go_enter Tryz.func55, Tryz.ntmps55
  go_wp2
  go_loopw [10, 17] (fun v10 v17 wr => ∃ (k : Nat) (out : List Pr), k ≤ len ∧ v17 = .int .i64 (k : Nat) ∧ Hid (wr.ownsRow w.heap.size 62 2 v10 out.length (out.flatMap prc) ∧ R = out ++ spanP (l.drop k) fr to ∧ Below w.heap.size w wr ∧ out.length ≤ k)) (fun _ v17 _ => len - (intOf v17).toNat)
  case atStart => exact ⟨0, [], Nat.zero_le _, rfl, hide ⟨World.ownsRow_nil _ _ _ _, HR.out, HB0.out, Nat.le_refl _⟩⟩
  case round =>
    obtain ⟨k, out, hk, rfl, HI⟩ := hrel
    clear HB0
    obtain ⟨a10, c10, rfl⟩ := own_form HI.out.1
    by_cases hlt : k < len
    · obtain ⟨b, off, rfl, hbs, z0, z1⟩ := (HL.out.below HI.out.2.2.1).2.2.2 k hlt
      have HDR : Hid (l.drop k = l.getD k Pr0 :: l.drop (k + 1)) := hide (drop_getD' l k (by rw [HLN.out]; exact hlt))
      generalize l.getD k Pr0 = p at *
      obtain ⟨y1, y2⟩ := p
      dsimp only at z0 z1
      have hw1 : IntKind.i64.wrap ((k : Int) + 1) = (k : Int) + 1 := wr64' (by omega) (by omega)
      have hi4 : (0 : Int) ≤ (k : Int) := by omega
      have hiI : (k : Int) < (len : Int) := by omega
      have hmI : (out.length : Int) < 1073741824 := by have := HI.out.2.2.2; have := HLE.out; omega
      have HBp : Hid (Below wr.heap.size wr (wr.alloc (.cells #[.string y1, .string y2] 62))) := hide ((Below.refl _ wr).alloc (Nat.le_refl _) _)
      have HPp : Hid (Blk2 (wr.alloc (.cells #[.string y1, .string y2] 62)) wr.heap.size y1 y2) := hide (heap_alloc_new _ _)
      have HOp : Hid ((wr.alloc (.cells #[.string y1, .string y2] 62)).ownsRow w.heap.size 62 2 (.slice a10 out.length c10) out.length (out.flatMap prc)) := hide (World.ownsRow.alloc HI.out.1 _)
      have HVp : Hid (Below w.heap.size w (wr.alloc (.cells #[.string y1, .string y2] 62)) ∧ w.heap.size ≤ (wr.alloc (.cells #[.string y1, .string y2] 62)).heap.size) := hide ⟨HI.out.2.2.1.trans (HBp.out.mono HI.out.2.2.1.size), Nat.le_trans HI.out.2.2.1.size HBp.out.size⟩
      have HLK : Hid (out.length ≤ k ∧ k < len) := hide ⟨HI.out.2.2.2, hlt⟩
      have HRD : Hid (R = out ++ ((if inSp (fr, to) y1 = true then [(⟨y1, y2⟩ : Pr)] else []) ++ spanP (l.drop (k + 1)) fr to)) := hide (by
        rw [HI.out.2.1, HDR.out]
        unfold spanP
        rw [List.filter_cons]
        dsimp only
        split <;> rfl)
      have HIN : Hid (inSp (fr, to) y1 = (!Op.bytesLess y1.toList fr.toList && (to.toList.isEmpty || Op.bytesLess y1.toList to.toList))) := hide rfl
      generalize hP : wr.alloc (.cells #[.string y1, .string y2] 62) = Vp at *
      obtain ⟨N, hN⟩ : ∃ N, wr.heap.size = N := ⟨_, rfl⟩
      rw [hN] at HPp
      clear HI HDR HBp
      obtain ⟨p0, p1⟩ := HPp.out.cells
      cases hin : inSp (fr, to) y1
      · have HRn : Hid (R = out ++ spanP (l.drop (k + 1)) fr to) := hide (by rw [HRD.out, hin]; simp)
        rw [hin] at HIN
        have HIN' := HIN.out.symm
        cases hb : Op.bytesLess y1.toList fr.toList
        · rw [hb] at HIN'
          have he : (to.toList == ([] : List UInt8)) = false := by
            cases ht : to.toList with
            | nil => rw [ht] at HIN'; simp at HIN'
            | cons x r => rfl
          have hb2 : Op.bytesLess y1.toList to.toList = false := by
            cases hq : Op.bytesLess y1.toList to.toList with
            | false => rfl
            | true => rw [hq] at HIN'; simp at HIN'
          clear HIN HIN' HRD
          go_wp2
          go_roundw
          case rel => exact ⟨k + 1, out, by omega, by simp, hide ⟨HOp.out, HRn.out, HVp.out.1, by have := HLK.out; omega⟩⟩
          case measure => simp [intOf]; omega
        · clear HIN HIN' HRD
          go_wp2
          go_roundw
          case rel => exact ⟨k + 1, out, by omega, by simp, hide ⟨HOp.out, HRn.out, HVp.out.1, by have := HLK.out; omega⟩⟩
          case measure => simp [intOf]; omega
      · have HRn : Hid (R = (out ++ [(⟨y1, y2⟩ : Pr)]) ++ spanP (l.drop (k + 1)) fr to) := hide (by rw [HRD.out, hin]; simp)
        rw [hin] at HIN
        have HIN' := HIN.out.symm
        have hb : Op.bytesLess y1.toList fr.toList = false := by
          cases hq : Op.bytesLess y1.toList fr.toList with
          | false => rfl
          | true => rw [hq] at HIN'; simp at HIN'
        rw [hb] at HIN'
        have HZp := hide HVp.out.2
        have HBIGn : Hid ((out.length + 1) * 32 ≤ 140737488355328) := hide (by have := HLK.out; have := HLE.out; omega)
        have HBan : Hid (Below Vp.heap.size Vp (Vp.alloc (.cells #[.string y1, .string y2] 62))) := hide ((Below.refl _ Vp).alloc (Nat.le_refl _) _)
        have HNan : Hid ((Vp.alloc (.cells #[.string y1, .string y2] 62)).heap[Vp.heap.size]? = some (.cells #[.string y1, .string y2] 62 (0, 0))) := hide (heap_alloc_new _ _)
        have HOan : Hid ((Vp.alloc (.cells #[.string y1, .string y2] 62)).ownsRow w.heap.size 62 2 (.slice a10 out.length c10) out.length ((out).flatMap prc)) := hide (World.ownsRow.alloc HOp.out _)
        have HZan : Hid (w.heap.size ≤ (Vp.alloc (.cells #[.string y1, .string y2] 62)).heap.size) := hide (Nat.le_trans HZp.out HBan.out.size)
        have fin : ∀ (vn : Value) (wn : World), Hid (wn.ownsRow w.heap.size 62 2 vn (out.length + 1) ((out ++ [(⟨y1, y2⟩ : Pr)]).flatMap prc) ∧ Below w.heap.size (Vp.alloc (.cells #[.string y1, .string y2] 62)) wn) → Hid (wn.ownsRow w.heap.size 62 2 vn (out ++ [(⟨y1, y2⟩ : Pr)]).length ((out ++ [(⟨y1, y2⟩ : Pr)]).flatMap prc) ∧ R = (out ++ [(⟨y1, y2⟩ : Pr)]) ++ spanP (l.drop (k + 1)) fr to ∧ Below w.heap.size w wn ∧ (out ++ [(⟨y1, y2⟩ : Pr)]).length ≤ k + 1) := fun vn wn H => hide ⟨by simpa using H.out.1, HRn.out, HVp.out.1.trans ((HBan.out.mono HZp.out).trans H.out.2), by have := HLK.out; simp; omega⟩
        have FIN := hide fin
        clear fin
        cases he : (to.toList == ([] : List UInt8))
        · have hb2 : Op.bytesLess y1.toList to.toList = true := by
            cases hq : Op.bytesLess y1.toList to.toList with
            | true => rfl
            | false =>
              rw [hq] at HIN'
              have : to.toList.isEmpty = false := by cases ht : to.toList with
                | nil => rw [ht] at he; simp at he
                | cons x r => rfl
              rw [this] at HIN'
              simp at HIN'
          clear HIN HIN' HRD
          go_wp2_with (at_builtin; refine wpList_prs rfl _ _ rfl w.heap.size (.slice a10 out.length c10) out.length (out) rfl HOan.out Vp.heap.size ⟨y1, y2⟩ rfl HNan.out HBIGn.out HZan.out ?_)
          intro vn wn HNn
          have HF := hide (FIN.out vn wn (hide ⟨by rw [List.flatMap_append]; simpa using HNn.out.1, HNn.out.2.1⟩)).out
          clear HNn FIN p0 p1
          go_wp2
          go_roundw
          case rel => exact ⟨k + 1, out ++ [(⟨y1, y2⟩ : Pr)], by omega, by simp, hide HF.out⟩
          case measure => simp [intOf]; omega
        · clear HIN HIN' HRD
          go_wp2_with (at_builtin; refine wpList_prs rfl _ _ rfl w.heap.size (.slice a10 out.length c10) out.length (out) rfl HOan.out Vp.heap.size ⟨y1, y2⟩ rfl HNan.out HBIGn.out HZan.out ?_)
          intro vn wn HNn
          have HF := hide (FIN.out vn wn (hide ⟨by rw [List.flatMap_append]; simpa using HNn.out.1, HNn.out.2.1⟩)).out
          clear HNn FIN p0 p1
          go_wp2
          go_roundw
          case rel => exact ⟨k + 1, out ++ [(⟨y1, y2⟩ : Pr)], by omega, by simp, hide HF.out⟩
          case measure => simp [intOf]; omega
    · obtain rfl : k = len := by omega
      have hkI : ¬ (k : Int) < (k : Int) := by omega
      have HE : Hid (R = out) := hide (by rw [HI.out.2.1, List.drop_of_length_le (by rw [HLN.out]; exact Nat.le_refl _)]; simp [spanP])
      go_wp2
      go_ret2
      exact ⟨_, rfl, by rw [HE.out]; exact HI.out.1, HI.out.2.2.1⟩
end Go.Proofs.YtlkmcbelmldleaaGreat
/- a step is put to its transaction's (note) -/
namespace Go.Proofs.YtlkmcbelmldleaaGreat
open Go.RowKit Go.Shelf
set_option maxRecDepth 40000
set_option linter.unusedVariables false
set_option linter.unusedSimpArgs false
theorem info40 : (Tryz.prog.info? 40).map (fun i => (i.zero, i.size, i.bytes)) = some (some (.agg #[.int .u8 0, .int .i64 0, .string ⟨#[]⟩, .string ⟨#[]⟩, .string ⟨#[]⟩]), 5, 64) := by kernel_rfl
theorem info47 : (Tryz.prog.info? 47).map (fun i => (i.zero, i.size, i.bytes)) = some (some (.agg #[.int .i64 0, .int .i64 0, .string ⟨#[]⟩, .bool false, .slice none 0 0, .slice none 0 0, .int .u64 0]), 7, 96) := by kernel_rfl
theorem info71 : (Tryz.prog.info? 71).map (fun i => (i.zero, i.size, i.bytes)) = some (some (.agg #[.int .i64 0, .slice none 0 0, .slice none 0 0]), 3, 56) := by kernel_rfl
theorem noteL_at {x : Sx} {A : An} : ∀ {l : List Td} {i : Nat} {T : Td}, l[i]? = some T → T.tx = x.t → (∀ j U, j < i → l[j]? = some U → ¬ U.tx = x.t) → noteL l x A = l.set i ⟨T.tx, T.st ++ [(x, A)]⟩
  | [], i, T, h, _, _ => by simp at h
  | U :: r, 0, T, h, e, _ => by
    obtain rfl : U = T := by simpa using h
    unfold noteL
    rw [if_pos e]
    rfl
  | U :: r, i + 1, T, h, e, hn => by
    unfold noteL
    rw [if_neg (hn 0 U (Nat.succ_pos _) rfl), noteL_at (l := r) (i := i) (by simpa using h) e (fun j V hj hV => hn (j + 1) V (by omega) (by simpa using hV))]
    rfl
theorem noteL_none {x : Sx} {A : An} : ∀ {l : List Td}, (∀ U ∈ l, ¬ U.tx = x.t) → noteL l x A = l ++ [⟨x.t, [(x, A)]⟩]
  | [], _ => rfl
  | U :: r, h => by
    unfold noteL
    rw [if_neg (h U List.mem_cons_self), noteL_none (fun V hV => h V (List.mem_cons_of_mem _ hV))]
    rfl
theorem flat_atM {α : Type} (f : α → List Value) (m : Nat) (hf : ∀ x, (f x).length = m) (d : α) : ∀ (l : List α) (k j : Nat), k < l.length → j < m → (l.flatMap f)[k * m + j]? = (f (l.getD k d))[j]?
  | [], k, j, h, _ => by simp at h
  | x :: r, 0, j, h, hj => by
    rw [List.flatMap_cons, List.getElem?_append_left (by rw [hf]; omega)]
    simp
  | x :: r, k + 1, j, h, hj => by
    have ih := flat_atM f m hf d r k j (by simpa using h) hj
    rw [List.flatMap_cons, List.getElem?_append_right (by rw [hf, Nat.succ_mul]; omega), show (k + 1) * m + j - (f x).length = k * m + j by rw [hf, Nat.succ_mul]; omega, ih]
    simp
theorem row_form {w : World} {B e s n c : Nat} {a : Option Addr} {xs : List Value} (h : w.ownsRow B e s (.slice a n c) n xs) (hn : 0 < n) : ∃ b, a = some ⟨b, 0, none⟩ := by
  rcases h.2 with ⟨_, h0⟩ | ⟨g, cap, cur, h', _⟩
  · omega
  · injection h' with h' _ _
    exact ⟨g, h'⟩
theorem below_drewN {n : Nat} {a b : World} (h : Below n a b) (k : Nat) : Below n a (b.drewN k) := ⟨h.os, h.tape, h.output, h.size, h.block⟩
/-- the rows' lengths -/
def Lens (os : List Tm) (N : Nat) : Prop := ∀ T ∈ os, T.ss.length = T.ys.length ∧ 0 < T.ss.length ∧ T.ss.length ≤ N
theorem td_snoc {T : Tm} (h : T.ss.length = T.ys.length) (x : Sx) (y : Ra) (sv yv : Value) : Tm.td ⟨T.tx, sv, yv, T.ss ++ [x], T.ys ++ [y]⟩ = ⟨T.tx, T.td.st ++ [(x, y.A)]⟩ := by
  unfold Tm.td
  dsimp only
  rw [List.zip_append h]
  simp
theorem wp_append_row {w : World} {o : Oper} {a : Act} {K : Act → World → Prop} {Q : Exit → Act → World → Prop} (s x : Operand) (t e : TypeId) (ho : o.op = .call { callee := .builtin .append, args := #[s, x], argTypes := #[t, t] }) {i : TypeInfo} {z : Value} {size bytes : Nat} (ht : Tryz.prog.underlying t = some (.slice e)) (hi : Tryz.prog.info? e = some i) (hz : i.zero = some z) (hsize : i.size = size) (hby : i.bytes = bytes) (hzs : z.cells.size = size) (hsz : 0 < size)
    (base : Nat) {v : Value} {n : Nat} {xs : List Value} (hs : a.eval s = v) (hown : w.ownsRow base e size v n xs) (b : Nat) (news : List Value) (hx : a.eval x = .slice (some ⟨b, 0, none⟩) 1 1) (hl : news.length = size) (hB : w.heap[b]? = some (.cells news.toArray e (0, 0))) (h1 : ∀ u ∈ news, u.oneCell' = true) (hbytes : (n + 1) * bytes ≤ 140737488355328) (hn : n < 140737488355328) (hbase : base ≤ w.heap.size)
    (h : ∀ v' w', Hid (w'.ownsRow base e size v' (n + 1) (xs ++ news) ∧ w.grownBy w' v.ownBlock ∧ (v'.ownBlock = v.ownBlock ∨ ∀ j, v'.ownBlock = some j → w.heap.size ≤ j) ∧ Kept w w' v.ownBlock (n * size)) → K (a.put o.dst v') w') : o.wp Tryz.prog a w K Q := by
  obtain ⟨v', w', hrun, r1, r2, r3, r4⟩ := app_two (W := w) base t o.type e ht hi hz hsize hby hzs hsz hown ⟨b, 0, none⟩ 1 1 news (by rw [hl]; omega) (fun j u hj => by
    rw [Addr.add_lit, Nat.zero_add, cell_of_row w b j news.toArray e (0, 0) hB]
    simpa using hj) h1 (by unfold maxLen; omega) hbytes hbase
  exact wp_append_eq s x t ho hs hx hrun (h v' w' (hide ⟨r1, r2, r3, r4⟩))
theorem wpList_append_row {w : World} {ops : Array Oper} {rest : List Oper} {o : Oper} {a : Act} {Q : Exit → Act → World → Prop} (hgd : o.guard = none) (s x : Operand) (t e : TypeId) (ho : o.op = .call { callee := .builtin .append, args := #[s, x], argTypes := #[t, t] }) {i : TypeInfo} {z : Value} {size bytes : Nat} (ht : Tryz.prog.underlying t = some (.slice e)) (hi : Tryz.prog.info? e = some i) (hz : i.zero = some z) (hsize : i.size = size) (hby : i.bytes = bytes) (hzs : z.cells.size = size) (hsz : 0 < size)
    (base : Nat) {v : Value} {n : Nat} {xs : List Value} (hs : a.eval s = v) (hown : w.ownsRow base e size v n xs) (b : Nat) (news : List Value) (hx : a.eval x = .slice (some ⟨b, 0, none⟩) 1 1) (hl : news.length = size) (hB : w.heap[b]? = some (.cells news.toArray e (0, 0))) (h1 : ∀ u ∈ news, u.oneCell' = true) (hbytes : (n + 1) * bytes ≤ 140737488355328) (hn : n < 140737488355328) (hbase : base ≤ w.heap.size)
    (h : ∀ v' w', Hid (w'.ownsRow base e size v' (n + 1) (xs ++ news) ∧ w.grownBy w' v.ownBlock ∧ (v'.ownBlock = v.ownBlock ∨ ∀ j, v'.ownBlock = some j → w.heap.size ≤ j) ∧ Kept w w' v.ownBlock (n * size)) → wpList Tryz.prog ops Q rest (a.put o.dst v') w') : wpList Tryz.prog ops Q (o :: rest) a w := by
  exact wpList_plain hgd fun _ hK => wp_append_row s x t e ho ht hi hz hsize hby hzs hsz base hs hown b news hx hl hB h1 hbytes hn hbase (fun v' w' H => hK _ _ (h v' w' H))
theorem noted_at {os : List Tm} {N k : Nat} {T : Tm} (hN : Lens os N) (hT : os[k]? = some T) (x : Sx) (y : Ra) (he : T.tx = x.t) (hne : ∀ j U, j < k → os[j]? = some U → ¬ U.tx = x.t) (sv yv : Value) :
    (os.set k ⟨T.tx, sv, yv, T.ss ++ [x], T.ys ++ [y]⟩).map Tm.td = noteL (os.map Tm.td) x y.A ∧ Lens (os.set k ⟨T.tx, sv, yv, T.ss ++ [x], T.ys ++ [y]⟩) (N + 1) ∧ (os.set k ⟨T.tx, sv, yv, T.ss ++ [x], T.ys ++ [y]⟩).length ≤ os.length + 1 := by
  obtain ⟨l1, l2, l3⟩ := hN T (List.mem_of_getElem? hT)
  refine ⟨?_, fun U hU => ?_, by simp⟩
  · rw [List.map_set, td_snoc l1, noteL_at (T := T.td) (i := k) (by rw [List.getElem?_map, hT]; rfl) he (fun j V hj hV => ?_)]
    · rfl
    · rw [List.getElem?_map] at hV
      cases hq : os[j]? with
      | none => rw [hq] at hV; cases hV
      | some U =>
        rw [hq] at hV
        cases hV
        exact hne j U hj hq
  · rcases List.mem_or_eq_of_mem_set hU with h | rfl
    · obtain ⟨h1, h2, h3⟩ := hN U h
      exact ⟨h1, h2, by omega⟩
    · exact ⟨by simp [l1], by simp, by simp; omega⟩
theorem noted_new {os : List Tm} {N : Nat} (hN : Lens os N) (x : Sx) (y : Ra) (hne : ∀ U ∈ os, ¬ U.tx = x.t) (sv yv : Value) :
    (os ++ [(⟨x.t, sv, yv, [x], [y]⟩ : Tm)]).map Tm.td = noteL (os.map Tm.td) x y.A ∧ Lens (os ++ [(⟨x.t, sv, yv, [x], [y]⟩ : Tm)]) (N + 1) ∧ (os ++ [(⟨x.t, sv, yv, [x], [y]⟩ : Tm)]).length ≤ os.length + 1 := by
  refine ⟨?_, fun U hU => ?_, by simp⟩
  · rw [List.map_append, noteL_none (fun V hV => ?_)]
    · rfl
    · obtain ⟨U, hU, rfl⟩ := List.mem_map.1 hV
      exact hne U hU
  · rcases List.mem_append.1 hU with h | h
    · obtain ⟨h1, h2, h3⟩ := hN U h
      exact ⟨h1, h2, by omega⟩
    · rw [List.mem_singleton.1 h]
      exact ⟨rfl, by simp, by simp⟩
end Go.Proofs.YtlkmcbelmldleaaGreat
/- what there is is never more than what versions may be -/
namespace Go.Proofs.YtlkmcbelmldleaaGreat
open Go.RowKit
set_option maxRecDepth 40000
set_option linter.unusedVariables false
set_option linter.unusedSimpArgs false
theorem scanF_lenA (L : List Vr) (fr to : ByteArray) (t : Nat) : ∀ (l : List Vr) (q : Option (List UInt8)), (scanF L fr to t q l).length ≤ l.length
  | [], q => by simp [scanF]
  | x :: r, q => by
    rw [scanF]
    split
    · have := scanF_lenA L fr to t r (some x.key.toList)
      simp
      omega
    · have := scanF_lenA L fr to t r (some x.key.toList)
      rw [List.length_append]
      have h1 : (item L fr to t x).toList.length ≤ 1 := by cases item L fr to t x <;> simp
      simp
      omega
theorem NowIs.len {ms : Mg} {now : List Pr} (hN : NowIs ms now) (hg : Gd ms) : now.length ≤ 4096 := by
  have hs := good_srt hg.good
  have e : scanF ms.vs ⟨#[]⟩ ⟨#[]⟩ ms.now none ms.vs = now := srtP_ext (scanF_srt ms.vs none hs) hN.1 (fun k => by
    rw [scanF_get hs, show inSpan ⟨#[]⟩ ⟨#[]⟩ k = true from inSp_all k, if_pos rfl]
    exact (hN.2 k).symm)
  rw [← e]
  exact Nat.le_trans (scanF_lenA _ _ _ _ _ _) (good_iff.1 hg.good).1
def BndA : List Pr → List Td → Prop
  | l, [] => l.length ≤ 4096
  | l, T :: r => l.length ≤ 4096 ∧ ∀ l', repL l T.st = some l' → BndA l' r
theorem BndA.len {l : List Pr} : ∀ {o : List Td}, BndA l o → l.length ≤ 4096
  | [], h => h
  | _ :: _, h => h.1
theorem bnd_app : ∀ {a b : List Td} {l : List Pr}, BndA l a → (∀ l', repA l a = some l' → BndA l' b) → BndA l (a ++ b)
  | [], b, l, _, h => h l rfl
  | T :: r, b, l, h1, h => ⟨h1.1, fun l' hl => bnd_app (h1.2 l' hl) (fun l'' h'' => h l'' (by unfold repA; rw [hl]; exact h''))⟩
theorem ofTx_few (t : Int) : ∀ {o : List Td}, Uniq o → (ofTx o t).length ≤ 1
  | [], _ => by simp [ofTx]
  | T :: r, h => by
    obtain ⟨h1, h2⟩ := List.pairwise_cons.1 h
    unfold ofTx
    rw [List.filter_cons]
    by_cases e : T.tx = t
    · rw [if_pos (by simpa using e), List.filter_eq_nil_iff.2 (fun U hU => by have := h1 U hU; rw [e] at this; simpa using fun q => this q.symm)]
      simp
    · rw [if_neg (by simpa using e)]
      exact ofTx_few t h2
theorem bnd_one {l : List Pr} {o : List Td} (ho : o.length ≤ 1) (h1 : l.length ≤ 4096) (h2 : ∀ l', repA l o = some l' → l'.length ≤ 4096) : BndA l o := by
  cases o with
  | nil => exact h1
  | cons T r =>
    obtain rfl : r = [] := (by simpa using ho)
    exact ⟨h1, fun l' hl => h2 l' (by unfold repA; rw [hl]; rfl)⟩
theorem Ser.bnd {l0 : List Pr} {ms ms' : Mg} {opn don : List Td} {t : Int} (h : Ser l0 ms opn don) (hb : BndA l0 don) (hg : Gd ms) (h' : Ser l0 ms' opn (don ++ ofTx opn t)) (hg' : Gd ms') : BndA l0 (don ++ ofTx opn t) := by
  obtain ⟨cur, h1, h2⟩ := h.cur
  obtain ⟨cur', h3, h4⟩ := h'.cur
  refine bnd_app hb (fun l' hl => ?_)
  rw [h1] at hl
  cases hl
  rw [repA_app _ _ _ _ h1] at h3
  exact bnd_one (ofTx_few t h.uniq) (h2.len hg) (fun l' hl => by rw [h3] at hl; cases hl; exact h4.len hg')
theorem repA_cons {l l' : List Pr} {T : Td} {r : List Td} (h : repA l (T :: r) = some l') : ∃ q, repL l T.st = some q ∧ repA q r = some l' := by
  unfold repA at h
  cases hq : repL l T.st with
  | none => rw [hq] at h; cases h
  | some q => rw [hq] at h; exact ⟨q, rfl, h⟩
theorem rep1_srt {l q : List Pr} {y : Sx × An} (hs : SrtP l) (h : rep1 l y = some q) : SrtP q := by
  unfold rep1 at h
  repeat' split at h
  all_goals first | (cases h; exact hs) | (cases h; exact withP_srt hs _) | cases h
theorem repL_srt : ∀ {st : List (Sx × An)} {l q : List Pr}, SrtP l → repL l st = some q → SrtP q
  | [], l, q, hs, h => by cases h; exact hs
  | y :: r, l, q, hs, h => by
    unfold repL at h
    cases hq : rep1 l y with
    | none => rw [hq] at h; cases h
    | some z => rw [hq] at h; exact repL_srt (rep1_srt hs hq) h
end Go.Proofs.YtlkmcbelmldleaaGreat

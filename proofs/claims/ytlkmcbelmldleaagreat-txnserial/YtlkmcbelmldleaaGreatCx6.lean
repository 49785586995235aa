/- Ty Tw Nb Oa -/
import Derived.Test.YtlkmcbelmldleaaGreatCx5
import Derived.Deep.Slices
import Derived.ChangeSame
import Derived.SizedLaws
import Derived.Test.YtlkmcbelmldleaaGreatCx1
import Derived.Test.YtlkmcbelmldleaaGreatCx2
import Derived.Test.YtlkmcbelmldleaaGreatCx3
import Derived.Test.YtlkmcbelmldleaaGreatCx4
/- the calls at a manager all of whose blocks lie above a mark -/
namespace Go.Proofs.YtlkmcbelmldleaaGreat
open Go.RowKit
open Go.Maps (Keyed has size)
set_option maxRecDepth 40000
/-- the open one of a number: its place, its number, itself -/
def Mg.at (ms : Mg) (t : Int) : Option (Nat × Nat × Tr) := match ms.opn.findIdx? (fun x => decide ((x.1 : Int) = t)) with
  | none => none
  | some i => match ms.opn[i]? with
    | none => none
    | some x => some (i, x.1, x.2)
theorem at_none {ms : Mg} {t : Int} (h : ms.at t = none) : ∀ x ∈ ms.opn, ¬ (x.1 : Int) = t := by
  unfold Mg.at at h
  cases hq : ms.opn.findIdx? (fun x => decide ((x.1 : Int) = t)) with
  | none =>
    intro x hx
    have := List.findIdx?_eq_none_iff.1 hq x hx
    simpa using this
  | some i =>
    rw [hq] at h
    obtain ⟨hi, _⟩ := List.findIdx?_eq_some_iff_getElem.1 hq
    dsimp only at h
    rw [List.getElem?_eq_getElem hi] at h
    cases h
theorem at_some {ms : Mg} {t : Int} {i n : Nat} {tr : Tr} (h : ms.at t = some (i, n, tr)) : ms.opn[i]? = some (n, tr) ∧ (n : Int) = t := by
  unfold Mg.at at h
  cases hq : ms.opn.findIdx? (fun x => decide ((x.1 : Int) = t)) with
  | none => rw [hq] at h; cases h
  | some j =>
    rw [hq] at h
    obtain ⟨hi, hp, _⟩ := List.findIdx?_eq_some_iff_getElem.1 hq
    dsimp only at h
    rw [List.getElem?_eq_getElem hi] at h
    simp only [Option.some.injEq, Prod.mk.injEq] at h
    obtain ⟨rfl, rfl, rfl⟩ := h
    exact ⟨List.getElem?_eq_getElem hi, by simpa using hp⟩
theorem vb_lt {w : World} {g ob : Nat} {ps : List Pl} {ms : Mg} (h : IsM w g ob ps ms) {b : Nat} (hv : VB w g b) : b < w.heap.size := by
  obtain ⟨a, n, c, h1, h2, _, _⟩ := h.ver
  obtain ⟨h0, off, e⟩ := hv.at h1
  obtain ⟨b', off', e', hlt, _⟩ := h2.2.2.2 0 h0
  rw [e] at e'
  cases e'
  exact hlt
/-- a manager none of whose blocks lies in a set -/
structure Mn (X : Nat → Prop) (w : World) (g : Nat) (ms : Mg) : Prop where
  ex : ∃ ob ps, IsM w g ob ps ms ∧ ∀ i, SM g ob ps i → ¬ X i
  ver : ∀ b, VB w g b → ¬ X b
  few : ∀ x ∈ ms.opn, x.2.reads.length ≤ 256 ∧ x.2.ws.length ≤ 256
  xb : ∀ i, X i → i < w.heap.size
theorem Mn.below {X : Nat → Prop} {w w' : World} {g : Nat} {ms : Mg} (h : Mn X w g ms) (hb : Below w.heap.size w w') : Mn X w' g ms := by
  obtain ⟨ob, ps, h1, h2⟩ := h.ex
  exact ⟨⟨ob, ps, h1.below hb, h2⟩, fun b hv => h.ver b (hv.same (hb.block _ (h1.ltS (.inl rfl)))), h.few, fun i hi => Nat.lt_of_lt_of_le (h.xb i hi) hb.size⟩
/-- new blocks are none of the manager's -/
theorem Mn.news {X : Nat → Prop} {w w' : World} {g : Nat} {ms : Mg} (h : Mn X w g ms) (hb : Below w.heap.size w w') : Mn (fun i => X i ∨ (w.heap.size ≤ i ∧ i < w'.heap.size)) w' g ms := by
  obtain ⟨ob, ps, h1, h2⟩ := h.ex
  refine ⟨⟨ob, ps, h1.below hb, fun i hi hx => ?_⟩, fun b hv hx => ?_, h.few, fun i hi => ?_⟩
  · rcases hx with hx | hx
    · exact h2 i hi hx
    · have := h1.ltS hi; omega
  · have hv' := hv.same (hb.block _ (h1.ltS (.inl rfl)))
    rcases hx with hx | hx
    · exact h.ver b hv' hx
    · have := vb_lt h1 hv'; omega
  · rcases hi with hi | hi
    · exact Nat.lt_of_lt_of_le (h.xb i hi) hb.size
    · exact hi.2
theorem Mn.mono {X Y : Nat → Prop} {w : World} {g : Nat} {ms : Mg} (h : Mn X w g ms) (hxy : ∀ i, Y i → X i) : Mn Y w g ms := by
  obtain ⟨ob, ps, h1, h2⟩ := h.ex
  exact ⟨⟨ob, ps, h1, fun i hi hy => h2 i hi (hxy i hy)⟩, fun b hv hy => h.ver b hv (hxy b hy), h.few, fun i hi => h.xb i (hxy i hi)⟩
theorem Mn.pl {w : World} {g ob : Nat} {ps : List Pl} {ms : Mg} (h : IsM w g ob ps ms) {i : Nat} {x : Nat × Tr} (hi : ms.opn[i]? = some x) : ∃ l, ps[i]? = some l := by
  obtain ⟨D, _, hO⟩ := h.map
  have : i < ps.length := by rw [hO.one]; exact (List.getElem?_eq_some_iff.1 hi).1
  exact ⟨_, List.getElem?_eq_getElem this⟩
theorem sm_set {g ob : Nat} {ps : List Pl} {i : Nat} {l l' : Pl} {P : Nat → Prop} (h2 : ps[i]? = some l) (hP : ∀ j, SM g ob ps j → P j) (hn : ∀ j, l'.has j → l.has j ∨ P j) : ∀ j, SM g ob (ps.set i l') j → P j := by
  rintro j (h | h | ⟨q, hq, h⟩)
  · exact hP j (.inl h)
  · exact hP j (.inr (.inl h))
  · obtain ⟨k, hk⟩ := List.mem_iff_getElem?.1 hq
    rcases get_set hk with ⟨_, e, _⟩ | ⟨_, e⟩
    · rw [e] at h
      rcases hn j h with h' | h'
      · exact hP j (.inr (.inr ⟨l, List.mem_of_getElem? h2, h'⟩))
      · exact h'
    · exact hP j (.inr (.inr ⟨q, List.mem_of_getElem? e, h⟩))
/-- Begin -/
def mBegin (ms : Mg) : Mg × Int × Int := if ms.opn.length = 16 then (ms, 0, 3) else (ms.begun, (ms.last : Int) + 1, 0)
theorem mn_begin (X : Nat → Prop) (w : World) (g : Nat) (ms : Mg) (h : Mn X w g ms) (hl : ms.last + 1 < 4611686018427387904) :
    Calls Tryz.prog 29 #[.pointer (some ⟨g, 0, none⟩)] w fun e w' => e = .returned (.tuple #[.int .i64 (mBegin ms).2.1, .int .i64 (mBegin ms).2.2]) ∧ Mn X w' g (mBegin ms).1 ∧ Frm (fun i => ¬ X i) w w' := by
  obtain ⟨ob, ps, h1, h2⟩ := h.ex
  unfold mBegin
  by_cases hn : ms.opn.length = 16
  · rw [if_pos hn]
    exact (begin_full w g ob ps ms h1 hn).mono (fun e w' q => ⟨q.1, by rw [q.2]; exact h, by rw [q.2]; exact Frm.refl _ _⟩)
  · rw [if_neg hn]
    refine (begin_ok w g ob ps ms h1 hn hl).mono ?_
    rintro e w' ⟨p, wb, rfl, hM, hF, hp, hw, hvb⟩
    refine ⟨rfl, ⟨⟨ob, _, hM, ?_⟩, fun b hv => h.ver b (hvb b hv), ?_, fun i hi => Nat.lt_of_lt_of_le (h.xb i hi) hF.size⟩, hF.mono (fun i _ hi => hi.elim (fun e => h2 i (.inl e)) (fun e => h2 i (.inr (.inl e))))⟩
    · rintro i (hi | hi | ⟨q, hq, hi⟩)
      · exact h2 i (.inl hi)
      · exact h2 i (.inr (.inl hi))
      · rcases List.mem_append.1 hq with hq | hq
        · exact h2 i (.inr (.inr ⟨q, hq, hi⟩))
        · rw [List.mem_singleton.1 hq] at hi
          intro hx
          have hb := h.xb i hx
          rcases hi with hi | hi | hi
          · have : i = p := hi
            omega
          · have : i = wb := hi
            omega
          · simp [Value.ownBlock] at hi
    · intro x hx
      have hx' : x ∈ ms.opn ++ [(ms.last + 1, (⟨ms.now, [], []⟩ : Tr))] := hx
      rcases List.mem_append.1 hx' with hx' | hx'
      · exact h.few x hx'
      · rw [List.mem_singleton.1 hx']; simp
theorem few_turn {ms : Mg} {i n : Nat} {tr : Tr} (h : ∀ x ∈ ms.opn, x.2.reads.length ≤ 256 ∧ x.2.ws.length ≤ 256) (ht : tr.reads.length ≤ 256 ∧ tr.ws.length ≤ 256) : ∀ x ∈ (ms.turn i n tr).opn, x.2.reads.length ≤ 256 ∧ x.2.ws.length ≤ 256 := by
  intro x hx
  obtain ⟨j, hj⟩ := List.mem_iff_getElem?.1 hx
  rcases get_set (show (ms.opn.set i (n, tr))[j]? = some x from hj) with ⟨_, e, _⟩ | ⟨_, e⟩
  · rw [e]; exact ht
  · exact h x (List.mem_of_getElem? e)
/-- Get -/
def mGet (ms : Mg) (t : Int) (k : ByteArray) : Mg × ByteArray × Bool × Int := match ms.at t with
  | none => (ms, ⟨#[]⟩, false, 11)
  | some (i, n, tr) => (ms.turn i n (if gotE tr k = 0 then tr.read (k, k ++ ⟨#[0]⟩) else tr), if gotE tr k = 0 then gotV ms tr k else (⟨#[]⟩, false, gotE tr k))
theorem mn_get (X : Nat → Prop) (w : World) (g : Nat) (ms : Mg) (h : Mn X w g ms) (t : Int) (ht : -9223372036854775808 ≤ t ∧ t ≤ 9223372036854775807) (k : ByteArray) :
    Calls Tryz.prog 32 #[.pointer (some ⟨g, 0, none⟩), .int .i64 t, .string k] w fun e w' => e = .returned (.tuple #[.string (mGet ms t k).2.1, .bool (mGet ms t k).2.2.1, .int .i64 (mGet ms t k).2.2.2]) ∧ Mn X w' g (mGet ms t k).1 ∧ Frm (fun i => ¬ X i) w w' := by
  obtain ⟨ob, ps, h1, h2⟩ := h.ex
  unfold mGet
  cases ha : ms.at t with
  | none => exact (tget_no w g ob ps ms h1 t ht (at_none ha) k).mono (fun e w' q => ⟨q.1, by rw [q.2]; exact h, by rw [q.2]; exact Frm.refl _ _⟩)
  | some x =>
    obtain ⟨i, n, tr⟩ := x
    obtain ⟨q1, rfl⟩ := at_some ha
    obtain ⟨l, q2⟩ := Mn.pl h1 q1
    have hf := h.few (n, tr) (List.mem_of_getElem? q1)
    refine (tget_any w g ob ps ms h1 i n tr l q1 q2 k hf.1).mono ?_
    rintro e w' ⟨rfl, v, hM, hF, hv⟩
    have hS : ∀ j, l.has j → ¬ X j := fun j hj => h2 j (.inr (.inr ⟨l, List.mem_of_getElem? q2, hj⟩))
    refine ⟨rfl, ⟨⟨ob, _, hM, sm_set q2 h2 (fun j hj => ?_)⟩, fun b hv => h.ver b (hv.same (hF.block _ (h1.ltS (.inl rfl)) (h1.far l (List.mem_of_getElem? q2)).1)), few_turn h.few ?_, fun i hi => Nat.lt_of_lt_of_le (h.xb i hi) hF.size⟩, hF.mono (fun i _ hi => hS i hi)⟩
    · rcases hj with hj | hj | hj
      · exact .inl (.inl hj)
      · exact .inl (.inr (.inl hj))
      · rcases hv j hj with h' | h'
        · exact .inl h'
        · exact .inr (fun hx => by have := h.xb j hx; omega)
    · by_cases h0 : gotE tr k = 0
      · rw [if_pos h0]
        have : ¬ tr.reads.length = 256 := fun e => by
          unfold gotE at h0
          split at h0
          · cases h0
          · cases h0
        have h3 : tr.reads.length ≤ 256 := hf.1
        exact ⟨by simp [Tr.read]; omega, hf.2⟩
      · rw [if_neg h0]; exact hf
/-- a write -/
def mWrite (ms : Mg) (t : Int) (x : Wt) : Mg × Int := match ms.at t with
  | none => (ms, 11)
  | some (i, n, tr) => (ms.turn i n (wroteTr tr x), wrote tr x)
theorem mn_write (X : Nat → Prop) (w : World) (g : Nat) (ms : Mg) (h : Mn X w g ms) (t : Int) (ht : -9223372036854775808 ≤ t ∧ t ≤ 9223372036854775807) (x : Wt) :
    Calls Tryz.prog 60 #[.pointer (some ⟨g, 0, none⟩), .int .i64 t, wv x] w fun e w' => e = .returned (.int .i64 (mWrite ms t x).2) ∧ (Mn X w' g (mWrite ms t x).1 ∧ Frm (fun i => ¬ X i) w w') := by
  obtain ⟨ob, ps, h1, h2⟩ := h.ex
  unfold mWrite
  cases ha : ms.at t with
  | none => exact (write_no w g ob ps ms h1 t ht (at_none ha) x.key x.val x.gone).mono (fun e w' q => ⟨q.1, h.below q.2, Frm.below q.2⟩)
  | some y =>
    obtain ⟨i, n, tr⟩ := y
    obtain ⟨q1, rfl⟩ := at_some ha
    obtain ⟨l, q2⟩ := Mn.pl h1 q1
    have hf := h.few (n, tr) (List.mem_of_getElem? q1)
    refine (write_any w g ob ps ms h1 i n tr l q1 q2 x hf.2).mono ?_
    rintro e w' ⟨rfl, hM, hF⟩
    have hS : ∀ j, l.has j → ¬ X j := fun j hj => h2 j (.inr (.inr ⟨l, List.mem_of_getElem? q2, hj⟩))
    obtain ⟨D, _, hWD⟩ := (h1.each i n tr l q1 q2).map
    refine ⟨rfl, ⟨⟨ob, ps, hM, h2⟩, fun b hv => h.ver b (hv.same (hF.block _ (h1.ltS (.inl rfl)) (fun e => (h1.far l (List.mem_of_getElem? q2)).1 (.inr (.inl e))))), few_turn h.few ⟨?_, wroteTr_len hWD.srt hf.2⟩, fun i hi => Nat.lt_of_lt_of_le (h.xb i hi) hF.size⟩, hF.mono (fun j _ hj => hS j (.inr (.inl hj)))⟩
    unfold wroteTr
    split <;> exact hf.1
theorem mn_put (X : Nat → Prop) (w : World) (g : Nat) (ms : Mg) (h : Mn X w g ms) (t : Int) (ht : -9223372036854775808 ≤ t ∧ t ≤ 9223372036854775807) (a b : ByteArray) :
    Calls Tryz.prog 34 #[.pointer (some ⟨g, 0, none⟩), .int .i64 t, .string a, .string b] w fun e w' => e = .returned (.int .i64 (mWrite ms t ⟨a, b, false⟩).2) ∧ (Mn X w' g (mWrite ms t ⟨a, b, false⟩).1 ∧ Frm (fun i => ¬ X i) w w') :=
  put_of w g t a b _ (fun w' => Mn X w' g (mWrite ms t ⟨a, b, false⟩).1 ∧ Frm (fun i => ¬ X i) w w') (mn_write X w g ms h t ht ⟨a, b, false⟩)
theorem mn_delete (X : Nat → Prop) (w : World) (g : Nat) (ms : Mg) (h : Mn X w g ms) (t : Int) (ht : -9223372036854775808 ≤ t ∧ t ≤ 9223372036854775807) (a : ByteArray) :
    Calls Tryz.prog 35 #[.pointer (some ⟨g, 0, none⟩), .int .i64 t, .string a] w fun e w' => e = .returned (.int .i64 (mWrite ms t ⟨a, ⟨#[]⟩, true⟩).2) ∧ (Mn X w' g (mWrite ms t ⟨a, ⟨#[]⟩, true⟩).1 ∧ Frm (fun i => ¬ X i) w w') :=
  delete_of w g t a _ (fun w' => Mn X w' g (mWrite ms t ⟨a, ⟨#[]⟩, true⟩).1 ∧ Frm (fun i => ¬ X i) w w') (mn_write X w g ms h t ht ⟨a, ⟨#[]⟩, true⟩)
theorem ended_opn (ms : Mg) (i : Nat) : (ms.ended i).opn = ms.opn.eraseIdx i := by
  unfold Mg.ended; split <;> rfl
/-- Commit -/
def mCommit (ms : Mg) (t : Int) : Mg × List Wt × Nat × Int := match ms.at t with
  | none => (ms, [], 0, 11)
  | some (i, _, tr) => ((comM ms tr).ended i, comW ms tr, comT ms tr, comE ms tr)
theorem mn_commit (X : Nat → Prop) (w : World) (g : Nat) (ms : Mg) (h : Mn X w g ms) (t : Int) (ht : -9223372036854775808 ≤ t ∧ t ≤ 9223372036854775807) (hnow : ms.now + 1 < 18446744073709551616) :
    Calls Tryz.prog 33 #[.pointer (some ⟨g, 0, none⟩), .int .i64 t] w fun e w' => ∃ v, e = .returned (.tuple #[v, .int .u64 ((mCommit ms t).2.2.1 : Nat), .int .i64 (mCommit ms t).2.2.2]) ∧ w'.ownsRow w.heap.size 64 3 v (mCommit ms t).2.1.length ((mCommit ms t).2.1.flatMap wtc) ∧ Mn (fun j => X j ∨ v.ownBlock = some j) w' g (mCommit ms t).1 ∧ Frm (fun i => ¬ X i) w w' := by
  obtain ⟨ob, ps, h1, h2⟩ := h.ex
  unfold mCommit
  cases ha : ms.at t with
  | none => exact (commit_no w g ob ps ms h1 t ht (at_none ha)).mono (fun e w' q => ⟨_, q.1, World.ownsRow_nil _ _ _ _, by rw [q.2]; exact h.mono (fun i hi => hi.elim id (fun e => by simp [Value.ownBlock] at e)), by rw [q.2]; exact Frm.refl _ _⟩)
  | some y =>
    obtain ⟨i, n, tr⟩ := y
    obtain ⟨q1, rfl⟩ := at_some ha
    obtain ⟨l, q2⟩ := Mn.pl h1 q1
    have hf := h.few (n, tr) (List.mem_of_getElem? q1)
    refine (commit_any w g ob ps ms h1 i n tr l q1 q2 hf.2 hnow).mono ?_
    rintro e w' ⟨v, rfl, hrow, hM, hF, hvb⟩
    refine ⟨v, rfl, hrow, ⟨⟨ob, _, hM, fun j hj hx => ?_⟩, fun b hv hx => ?_, fun x hx => ?_, fun i hi => ?_⟩, hF.mono (fun j _ hj => hj.elim (fun e => h2 j (.inl e)) (fun e => h2 j (.inr (.inl e))))⟩
    · rcases hx with hx | hx
      · exact h2 j (sm_less hj) hx
      · have h3 := (hrow.lt j hx).1
        have h4 := h1.ltS (sm_less hj)
        omega
    · obtain ⟨h3, h4⟩ := hvb b hv
      rcases hx with hx | hx
      · rcases h3 with h3 | h3
        · exact h.ver b h3 hx
        · have := h.xb b hx; omega
      · exact h4 hx
    · rw [ended_opn, comM_opn] at hx
      exact h.few x (List.mem_of_mem_eraseIdx hx)
    · rcases hi with hi | hi
      · exact Nat.lt_of_lt_of_le (h.xb i hi) hF.size
      · exact (hrow.lt i hi).2
theorem mn_now (X : Nat → Prop) (w : World) (g : Nat) (ms : Mg) (h : Mn X w g ms) : Calls Tryz.prog 20 #[.pointer (some ⟨g, 0, none⟩)] w fun e w' => e = .returned (.int .u64 (ms.now : Nat)) ∧ w' = w := by
  obtain ⟨ob, ps, h1, _⟩ := h.ex
  exact now_any w g ob ps ms h1
theorem mn_new (a : Option Addr) (len cap : Nat) (l : List Pr) (w : World) (hL : IsP w a len cap l) (hbig : len * 40 ≤ 140737488355328) :
    Calls Tryz.prog 11 #[.slice a len cap] w fun e w' => ∃ ptr, e = .returned (.tuple #[ptr, .int .i64 (newE l)]) ∧ (newE l = 0 → ∃ g, ptr = .pointer (some ⟨g, 0, none⟩) ∧ Mn (fun i => i < w.heap.size) w' g (newM l)) ∧ (¬ newE l = 0 → ptr = .pointer none) ∧ Below w.heap.size w w' := by
  refine (new_any a len cap l w hL hbig).mono ?_
  rintro e w' ⟨ptr, rfl, h1, h2, hb⟩
  refine ⟨ptr, rfl, fun h0 => ?_, h2, hb⟩
  obtain ⟨g, ob, e, hM, hg, ho, hvb⟩ := h1 h0
  refine ⟨g, e, ⟨⟨ob, [], hM, ?_⟩, fun b hv hx => by have := hvb b hv; omega, fun x hx => by simp [newM] at hx, fun i hi => Nat.lt_of_lt_of_le hi hb.size⟩⟩
  rintro i (hi | hi | ⟨q, hq, _⟩)
  · omega
  · omega
  · simp at hq
/-- what is below stays -/
theorem Frm.low {X : Nat → Prop} {w w' : World} {B : Nat} (h : Frm (fun i => ¬ X i) w w') (hX : ∀ i, i < B → X i) (hB : B ≤ w.heap.size) : Below B w w' := h.toBelow hB (fun i hi => by
  by_cases hlt : i < B
  · exact absurd (hX i hlt) hi
  · omega)
end Go.Proofs.YtlkmcbelmldleaaGreat
/- lives -/
namespace Go.Proofs.YtlkmcbelmldleaaGreat
open Go.RowKit
set_option maxRecDepth 40000
def lM0 : Mg := ⟨1, lvs, 1, 0, []⟩
def lMa : Mg := ⟨1, lvs, 1, 1, [(1, ⟨1, [], []⟩)]⟩
def lMb : Mg := ⟨1, lvs, 1, 2, [(1, ⟨1, [(lA, lA0)], []⟩), (2, ⟨1, [], []⟩)]⟩
def lMc : Mg := ⟨1, lvs, 1, 2, [(1, ⟨1, [(lA, lA0)], []⟩), (2, ⟨1, [(lA, lA0)], []⟩)]⟩
def lMd : Mg := ⟨1, lvs, 1, 2, [(1, lvT l2), (2, ⟨1, [(lA, lA0)], []⟩)]⟩
theorem lv_b1 : mBegin lM0 = (lMa, 1, 0) := rfl
theorem lv_b2 : mBegin lMa = (lM1, 2, 0) := rfl
theorem lv_g1 : mGet lM1 1 lA = (lMb, l1, true, 0) := by
  have h : getR lM1.low lM1.vs lA 1 = (l1, true, 0) := lv_get
  have e : mGet lM1 1 lA = (lMb, getR lM1.low lM1.vs lA 1) := rfl
  rw [e, h]
theorem lv_g2 : mGet lMb 2 lA = (lMc, l1, true, 0) := by
  have h : getR lMb.low lMb.vs lA 1 = (l1, true, 0) := lv_get
  have e : mGet lMb 2 lA = (lMc, getR lMb.low lMb.vs lA 1) := rfl
  rw [e, h]
theorem lv_w1 : mWrite lMc 1 ⟨lA, l2, false⟩ = (lMd, 0) := rfl
theorem lv_w2 : mWrite lMd 2 ⟨lA, l3, false⟩ = (lM2, 0) := rfl
theorem lv_c1 : mCommit lM2 1 = (lM3, [⟨lA, l2, false⟩], 2, 0) := by
  have e : mCommit lM2 1 = ((comM lM2 (lvT l2)).ended 0, comW lM2 (lvT l2), comT lM2 (lvT l2), comE lM2 (lvT l2)) := rfl
  rw [e, lv_com.1, lv_com.2.1, lv_com.2.2.1, lv_com.2.2.2]
theorem lv_c2 : (mCommit lM3 2).2.2.2 = 10 ∧ (mCommit lM3 2).2.2.1 = 0 ∧ (mCommit lM3 2).2.1 = [] ∧ (mCommit lM3 2).1.now = 2 := by
  have e : mCommit lM3 2 = ((comM lM3 (lvT l3)).ended 0, comW lM3 (lvT l3), comT lM3 (lvT l3), comE lM3 (lvT l3)) := rfl
  have e1 := lv_com2
  have e2 : comM lM3 (lvT l3) = lM3 := if_pos (.inl (lv_conf2 l3))
  rw [e]
  refine ⟨e1, ?_, ?_, ?_⟩
  · show comT lM3 (lvT l3) = 0
    unfold comT; rw [if_neg (by rw [e1]; decide)]
  · show comW lM3 (lvT l3) = []
    unfold comW; rw [if_neg (by rw [e1]; decide)]
  · show ((comM lM3 (lvT l3)).ended 0).now = 2
    rw [e2]
    unfold Mg.ended
    split <;> rfl
set_option maxHeartbeats 4000000 in
theorem lives_any (w : World) : Calls Tryz.prog 13 #[] w fun e w' => e = .returned (.bool true) ∧ Below w.heap.size w w' := by
  have HB0 : Hid (Below w.heap.size w (w.alloc (.cells #[.string ⟨#[97]⟩, .string ⟨#[49]⟩] 62))) := hide ((Below.refl _ w).alloc (Nat.le_refl _) _)
  have hN0 := heap_alloc_new w (.cells #[.string ⟨#[97]⟩, .string ⟨#[49]⟩] 62)
  have HP : Hid (IsP (w.alloc (.cells #[.string ⟨#[97]⟩, .string ⟨#[49]⟩] 62)) (some ⟨w.heap.size, 0, none⟩) 1 1 [⟨lA, l1⟩]) := hide (by
    refine ⟨rfl, Nat.le_refl _, by decide, fun i hi => ⟨w.heap.size, 0, rfl, heap_lt hN0, ?_, ?_⟩⟩
    · obtain rfl : i = 0 := by omega
      exact cell_blk hN0 rfl
    · obtain rfl : i = 0 := by omega
      exact cell_blk hN0 rfl)
  have HNW := hide (mn_new _ 1 1 _ _ HP.out (by omega))
  clear hN0
  go_enter Tryz.func13, Tryz.ntmps13
  go_wp2_with fail
  refine HNW.out.mono ?_
  rintro e w1 ⟨ptr, rfl, h1, _, hb1⟩
  obtain ⟨g, rfl, hM⟩ := h1 lv_new.1
  rw [lv_new.2] at hM
  rw [lv_new.1]
  have hM : Mn (fun i => i < (w.alloc (.cells #[.string ⟨#[97]⟩, .string ⟨#[49]⟩] 62)).heap.size) w1 g lM0 := hM
  have HM1 := hide hM
  have HB1 := hide (HB0.out.trans (hb1.mono HB0.out.size))
  have HZ1 := hide hb1.size
  have HBS : Hid (w.heap.size ≤ (w.alloc (.cells #[.string ⟨#[97]⟩, .string ⟨#[49]⟩] 62)).heap.size) := hide HB0.out.size
  clear h1 hM hb1 HNW HP HB0
  generalize (w.alloc (.cells #[.string ⟨#[97]⟩, .string ⟨#[49]⟩] 62)).heap.size = B at *
  have HC := hide (mn_begin (fun i => i < B) w1 g lM0 HM1.out (by decide))
  rw [lv_b1] at HC
  dsimp only at HC
  go_wp2_with fail
  refine HC.out.mono ?_
  rintro e w2 ⟨rfl, hM, hf⟩
  have HM2 := hide hM
  have hb := hf.low (B := B) (fun i h => h) HZ1.out
  have HB2 := hide (HB1.out.trans (hb.mono HBS.out))
  have HZ2 := hide (Nat.le_trans HZ1.out hb.size)
  clear hM hf hb HC HM1 HB1 HZ1
  have HC := hide (mn_begin (fun i => i < B) w2 g lMa HM2.out (by decide))
  rw [lv_b2] at HC
  dsimp only at HC
  go_wp2_with fail
  refine HC.out.mono ?_
  rintro e w3 ⟨rfl, hM, hf⟩
  have HM3 := hide hM
  have hb := hf.low (B := B) (fun i h => h) HZ2.out
  have HB3 := hide (HB2.out.trans (hb.mono HBS.out))
  have HZ3 := hide (Nat.le_trans HZ2.out hb.size)
  clear hM hf hb HC HM2 HB2 HZ2
  have HC := hide (mn_get (fun i => i < B) w3 g lM1 HM3.out 1 (by omega) lA)
  rw [lv_g1] at HC
  dsimp only at HC
  go_wp2_with fail
  refine HC.out.mono ?_
  rintro e w4 ⟨rfl, hM, hf⟩
  have HM4 := hide hM
  have hb := hf.low (B := B) (fun i h => h) HZ3.out
  have HB4 := hide (HB3.out.trans (hb.mono HBS.out))
  have HZ4 := hide (Nat.le_trans HZ3.out hb.size)
  clear hM hf hb HC HM3 HB3 HZ3
  have HC := hide (mn_get (fun i => i < B) w4 g lMb HM4.out 2 (by omega) lA)
  rw [lv_g2] at HC
  dsimp only at HC
  go_wp2_with fail
  refine HC.out.mono ?_
  rintro e w5 ⟨rfl, hM, hf⟩
  have HM5 := hide hM
  have hb := hf.low (B := B) (fun i h => h) HZ4.out
  have HB5 := hide (HB4.out.trans (hb.mono HBS.out))
  have HZ5 := hide (Nat.le_trans HZ4.out hb.size)
  clear hM hf hb HC HM4 HB4 HZ4
  have HC := hide (mn_put (fun i => i < B) w5 g lMc HM5.out 1 (by omega) lA l2)
  rw [lv_w1] at HC
  dsimp only at HC
  go_wp2_with fail
  refine HC.out.mono ?_
  rintro e w6 ⟨rfl, hM, hf⟩
  have HM6 := hide hM
  have hb := hf.low (B := B) (fun i h => h) HZ5.out
  have HB6 := hide (HB5.out.trans (hb.mono HBS.out))
  have HZ6 := hide (Nat.le_trans HZ5.out hb.size)
  clear hM hf hb HC HM5 HB5 HZ5
  have HC := hide (mn_put (fun i => i < B) w6 g lMd HM6.out 2 (by omega) lA l3)
  rw [lv_w2] at HC
  dsimp only at HC
  go_wp2_with fail
  refine HC.out.mono ?_
  rintro e w7 ⟨rfl, hM, hf⟩
  have HM7 := hide hM
  have hb := hf.low (B := B) (fun i h => h) HZ6.out
  have HB7 := hide (HB6.out.trans (hb.mono HBS.out))
  have HZ7 := hide (Nat.le_trans HZ6.out hb.size)
  clear hM hf hb HC HM6 HB6 HZ6
  have HC := hide (mn_commit (fun i => i < B) w7 g lM2 HM7.out 1 (by omega) (by decide))
  rw [lv_c1] at HC
  dsimp only at HC
  go_wp2_with fail
  refine HC.out.mono ?_
  rintro e w8 ⟨v8, rfl, hr8, hM, hf⟩
  obtain ⟨a8, c8, rfl⟩ := own_form hr8
  have HM8 := hide hM
  have hb := hf.low (B := B) (fun i h => h) HZ7.out
  have HB8 := hide (HB7.out.trans (hb.mono HBS.out))
  have HZ8 := hide (Nat.le_trans HZ7.out hb.size)
  have HRL := hide hr8
  clear hM hf hb hr8 HC HM7 HB7 HZ7
  have HC := hide (mn_commit _ w8 g lM3 HM8.out 2 (by omega) (by decide))
  rw [lv_c2.1, lv_c2.2.1, lv_c2.2.2.1] at HC
  go_wp2_with fail
  refine HC.out.mono ?_
  rintro e w9 ⟨v9, rfl, hr9, hM, hf⟩
  have hb := hf.low (B := B) (fun i h => .inl h) HZ8.out
  have HB9 := hide (HB8.out.trans (hb.mono HBS.out))
  have HR9 : Hid (IsW w9 a8 1 c8 [⟨lA, l2, false⟩]) := hide (own_isW rfl (row_kept HRL.out (fun j hj => hf.block j (HRL.out.lt j hj).2 (fun h => h (.inr hj)))))
  have HM9 := hide hM
  clear hM hf hb hr9 HC HM8 HB8 HZ8 HRL
  have HBA : Hid (Below w9.heap.size w9 (w9.alloc (.cells #[.string ⟨#[97]⟩, .string ⟨#[50]⟩, .bool false] 64))) := hide ((Below.refl _ w9).alloc (Nat.le_refl _) _)
  have hNA := heap_alloc_new w9 (.cells #[.string ⟨#[97]⟩, .string ⟨#[50]⟩, .bool false] 64)
  have HWA : Hid (IsW (w9.alloc (.cells #[.string ⟨#[97]⟩, .string ⟨#[50]⟩, .bool false] 64)) (some ⟨w9.heap.size, 0, none⟩) 1 1 [⟨lA, l2, false⟩]) := hide (by
    refine ⟨rfl, Nat.le_refl _, by decide, fun i hi => ⟨w9.heap.size, 0, rfl, heap_lt hNA, ?_, ?_, ?_⟩⟩
    · obtain rfl : i = 0 := by omega
      exact cell_blk hNA rfl
    · obtain rfl : i = 0 := by omega
      exact cell_blk hNA rfl
    · obtain rfl : i = 0 := by omega
      exact cell_blk hNA rfl)
  have HSW := hide (sameW_any a8 1 c8 [⟨lA, l2, false⟩] (some ⟨w9.heap.size, 0, none⟩) 1 1 [⟨lA, l2, false⟩] _ (HR9.out.below HBA.out) HWA.out)
  clear hNA
  go_wp2_with fail
  refine HSW.out.mono ?_
  rintro e wA ⟨⟨r, rfl, hr⟩, hb⟩
  obtain rfl : r = true := by simpa using hr
  have hbA := HBA.out.trans (hb.mono HBA.out.size)
  have HMA := hide (HM9.out.below hbA)
  have HBB := hide (HB9.out.trans (hbA.mono HB9.out.size))
  have HNW := hide (mn_now _ wA g _ HMA.out)
  rw [lv_c2.2.2.2] at HNW
  clear hr hb hbA HSW
  go_wp2_with fail
  refine HNW.out.mono ?_
  rintro e wB ⟨rfl, rfl⟩
  go_wp2
  go_ret
  exact ⟨rfl, HBB.out⟩
end Go.Proofs.YtlkmcbelmldleaaGreat
/- the document's Same at answers that are one; peek at a manager that is none -/
namespace Go.Proofs.YtlkmcbelmldleaaGreat
open Go.RowKit
set_option maxRecDepth 40000
/-- an answer -/
structure An where
  why : Int
  tx : Int
  val : ByteArray
  is : Bool
  pairs : List Pr
  done : List Wt
  time : Nat
/-- an answer in memory -/
def IsA (w : World) (v : Value) (A : An) : Prop := ∃ ap np cp ad nd cd, v = .agg #[.int .i64 A.why, .int .i64 A.tx, .string A.val, .bool A.is, .slice ap np cp, .slice ad nd cd, .int .u64 (A.time : Nat)] ∧ IsP w ap np cp A.pairs ∧ IsW w ad nd cd A.done
theorem isP_none (w : World) : IsP w none 0 0 [] := ⟨rfl, Nat.le_refl _, Nat.zero_le _, fun _ hi => absurd hi (Nat.not_lt_zero _)⟩
end Go.Proofs.YtlkmcbelmldleaaGreat
/- steps and pairs that are handed in -/
namespace Go.Proofs.YtlkmcbelmldleaaGreat
open Go.RowKit Go.ChangeShapes Go.WideShapes Go.Deep
set_option maxRecDepth 40000
/-- a step -/
structure Sx where
  k : Nat
  t : Int
  key : ByteArray
  to : ByteArray
  val : ByteArray
def Sx0 : Sx := ⟨0, 0, ⟨#[]⟩, ⟨#[]⟩, ⟨#[]⟩⟩
abbrev sxc (x : Sx) : List Value := [.int .u8 (x.k : Nat), .int .i64 x.t, .string x.key, .string x.to, .string x.val]
def i64B (t : Int) : Prop := -9223372036854775808 ≤ t ∧ t ≤ 9223372036854775807
/-- steps in memory -/
def IsSt (w : World) (a : Option Addr) (len cap : Nat) (l : List Sx) : Prop :=
  l.length = len ∧ len ≤ cap ∧ cap ≤ maxLen ∧ ∀ i, i < len → i64B (l.getD i Sx0).t ∧ ∃ b off, a = some ⟨b, off, none⟩ ∧ b < w.heap.size ∧ w.cell? ⟨b, off + i * 5, none⟩ = some (.int .u8 ((l.getD i Sx0).k : Nat)) ∧ w.cell? ⟨b, off + i * 5 + 1, none⟩ = some (.int .i64 (l.getD i Sx0).t) ∧ w.cell? ⟨b, off + i * 5 + 2, none⟩ = some (.string (l.getD i Sx0).key) ∧ w.cell? ⟨b, off + i * 5 + 3, none⟩ = some (.string (l.getD i Sx0).to) ∧ w.cell? ⟨b, off + i * 5 + 4, none⟩ = some (.string (l.getD i Sx0).val)
theorem IsSt.below {w w' : World} {a : Option Addr} {len cap : Nat} {l : List Sx} (h : IsSt w a len cap l) (hb : Below w.heap.size w w') : IsSt w' a len cap l := by
  refine ⟨h.1, h.2.1, h.2.2.1, fun i hi => ?_⟩
  obtain ⟨ht, b, off, e, hlt, h0, h1, h2, h3, h4⟩ := h.2.2.2 i hi
  have k : ∀ j, w'.cell? ⟨b, j, none⟩ = w.cell? ⟨b, j, none⟩ := fun j => World.cell?_of_block (hb.block b hlt)
  exact ⟨ht, b, off, e, Nat.lt_of_lt_of_le hlt hb.size, (k _).trans h0, (k _).trans h1, (k _).trans h2, (k _).trans h3, (k _).trans h4⟩
theorem ocells40 : Tryz.prog.cellsOf 40 = 5 := by kernel_rfl
theorem ocells38 : Tryz.prog.cellsOf 38 = 1 := by kernel_rfl
theorem ocells62 : Tryz.prog.cellsOf 62 = 2 := by kernel_rfl
theorem ocells3 : Tryz.prog.cellsOf 3 = 1 := by kernel_rfl
theorem ocells9 : Tryz.prog.cellsOf 9 = 1 := by kernel_rfl
theorem oadd (a : Addr) (i j : Nat) : (a.add i).add j = a.add (i + j) := by
  cases a with
  | mk b off sp => by_cases hi : i = 0 <;> by_cases hj : j = 0 <;> simp [Addr.add, hi, hj] <;> omega
theorem oadd0 (b off i : Nat) : (⟨b, off, none⟩ : Addr).add i = ⟨b, off + i, none⟩ := by
  by_cases hi : i = 0 <;> simp [Addr.add, hi]
theorem ochoose {α : Type} (d : α) {n : Nat} {Pr : Nat → α → Prop} (h : ∀ i, i < n → ∃ x, Pr i x) : ∃ f : Nat → α, ∀ i, i < n → Pr i (f i) :=
  ⟨fun i => if hi : i < n then Classical.choose (h i hi) else d, fun i hi => by simp only [dif_pos hi]; exact Classical.choose_spec (h i hi)⟩
theorem wf_i64 {n : Int} (h : (Lit.int .i64 n).wf = true) : i64B n := by
  simpa [Lit.wf, IntKind.min, IntKind.max, IntKind.bits, IntKind.signed, i64B] using h
theorem wf_u8 {n : Int} (h : (Lit.int .u8 n).wf = true) : 0 ≤ n ∧ n ≤ 255 := by
  simpa [Lit.wf, IntKind.min, IntKind.max, IntKind.bits, IntKind.signed] using h
section
variable {H : Type} {enc : TypeId × Value → H} {W : World} {base : Nat} {spare : Nat → Bool} {held : Bool}
/-- one step, of its five cells -/
theorem open_step {fuel : Nat} {cs : List Value} {x : DataW H × List MemPlace} (h : DataW.trod enc Tryz.prog W base spare held fuel 40 cs = some x) : ∃ e : Sx, cs = sxc e ∧ i64B e.t := by
  obtain ⟨xs, n, rfl, rfl, hl, hx, hf⟩ := DataW.trod_struct Tryz.underlying40 h
  rw [ocells40] at hl
  have hx5 : xs.length = 5 := hx
  match xs, hx5, cs, hl with
  | [y0, y1, y2, y3, y4], _, [v0, v1, v2, v3, v4], _ =>
    have g0 : DataW.trod enc Tryz.prog W base spare held n 38 [v0] = some y0 := by simpa [ocells38] using hf 0 _ rfl
    have g1 : DataW.trod enc Tryz.prog W base spare held n 3 [v1] = some y1 := by simpa [ocells38, ocells3] using hf 1 _ rfl
    have g2 : DataW.trod enc Tryz.prog W base spare held n 9 [v2] = some y2 := by simpa [ocells38, ocells3, ocells9] using hf 2 _ rfl
    have g3 : DataW.trod enc Tryz.prog W base spare held n 9 [v3] = some y3 := by simpa [ocells38, ocells3, ocells9] using hf 3 _ rfl
    have g4 : DataW.trod enc Tryz.prog W base spare held n 9 [v4] = some y4 := by simpa [ocells38, ocells3, ocells9] using hf 4 _ rfl
    obtain ⟨n0, e0, _, w0⟩ := DataW.trod_int Tryz.underlying38 g0
    obtain ⟨n1, e1, _, w1⟩ := DataW.trod_int Tryz.underlying3 g1
    obtain ⟨s2, e2, _, w2⟩ := DataW.trod_string Tryz.underlying9 g2
    obtain ⟨s3, e3, _, w3⟩ := DataW.trod_string Tryz.underlying9 g3
    obtain ⟨s4, e4, _, w4⟩ := DataW.trod_string Tryz.underlying9 g4
    cases e0; cases e1; cases e2; cases e3; cases e4
    obtain ⟨m, rfl⟩ := Int.eq_ofNat_of_zero_le (wf_u8 w0).1
    exact ⟨⟨m, n1, s2, s3, s4⟩, rfl, wf_i64 w1⟩
theorem open_pr {fuel : Nat} {cs : List Value} {x : DataW H × List MemPlace} (h : DataW.trod enc Tryz.prog W base spare held fuel 62 cs = some x) : ∃ e : Pr, cs = prc e := by
  obtain ⟨xs, n, rfl, rfl, hl, hx, hf⟩ := DataW.trod_struct Tryz.underlying62 h
  rw [ocells62] at hl
  have hx2 : xs.length = 2 := hx
  match xs, hx2, cs, hl with
  | [y0, y1], _, [v0, v1], _ =>
    have g0 : DataW.trod enc Tryz.prog W base spare held n 9 [v0] = some y0 := by simpa [ocells9] using hf 0 _ rfl
    have g1 : DataW.trod enc Tryz.prog W base spare held n 9 [v1] = some y1 := by simpa [ocells9] using hf 1 _ rfl
    obtain ⟨s0, e0, _, w0⟩ := DataW.trod_string Tryz.underlying9 g0
    obtain ⟨s1, e1, _, w1⟩ := DataW.trod_string Tryz.underlying9 g1
    cases e0; cases e1
    exact ⟨⟨s0, s1⟩, rfl⟩
theorem isSt_none (w : World) : IsSt w none 0 0 [] := ⟨rfl, Nat.le_refl _, Nat.zero_le _, fun _ hi => absurd hi (Nat.not_lt_zero _)⟩
end
end Go.Proofs.YtlkmcbelmldleaaGreat

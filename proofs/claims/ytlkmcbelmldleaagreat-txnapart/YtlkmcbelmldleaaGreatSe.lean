/- Scan and Abort at a manager none of whose blocks lies in a set -/
import Derived.Test.YtlkmcbelmldleaaGreatSd
import Derived.Test.YtlkmcbelmldleaaGreatTz
namespace Go.Proofs.YtlkmcbelmldleaaGreat
open Go.RowKit
open Go.Maps (Keyed has size)
set_option maxRecDepth 40000
/-- Scan: what stays, and why -/
def mScan (ms : Mg) (t : Int) (fr to : ByteArray) : Mg × Int := match ms.at t with
  | none => (ms, 11)
  | some (i, n, tr) => if tr.reads.length = 256 then (ms, 3) else (ms.turn i n (tr.read (fr, to)), (scanR ms.low ms.vs fr to tr.began).2)
/-- the pairs that it answers -/
def ScanL (ms : Mg) (t : Int) (fr to : ByteArray) (l : List Pr) : Prop := match ms.at t with
  | none => l = []
  | some (_, _, tr) => if tr.reads.length = 256 then l = [] else l.Perm (oldP tr.ws (scanR ms.low ms.vs fr to tr.began).1 ++ (tr.ws.filter (seenW (fr, to))).map prOf) ∧ (∀ i j, i < j → j < l.length → Op.bytesLess (l.getD j Pr0).key.toList (l.getD i Pr0).key.toList = false)
theorem mn_scan (X : Nat → Prop) (w : World) (g : Nat) (ms : Mg) (h : Mn X w g ms) (t : Int) (ht : -9223372036854775808 ≤ t ∧ t ≤ 9223372036854775807) (fr to : ByteArray) :
    Calls Tryz.prog 30 #[.pointer (some ⟨g, 0, none⟩), .int .i64 t, .string fr, .string to] w fun e w' => ∃ (v : Value) (l : List Pr), e = .returned (.tuple #[v, .int .i64 (mScan ms t fr to).2]) ∧ w'.ownsRow w.heap.size 62 2 v l.length (l.flatMap prc) ∧ ScanL ms t fr to l ∧ Mn (fun j => X j ∨ v.ownBlock = some j) w' g (mScan ms t fr to).1 ∧ Frm (fun i => ¬ X i) w w' := by
  obtain ⟨ob, ps, h1, h2⟩ := h.ex
  unfold mScan ScanL
  have hnil : ∀ (w' : World), w' = w → Mn (fun j => X j ∨ (Value.slice none 0 0).ownBlock = some j) w' g ms := fun w' e => by
    rw [e]; exact h.mono (fun i hi => hi.elim id (fun e => by simp [Value.ownBlock] at e))
  cases ha : ms.at t with
  | none => exact (tscan_no w g ob ps ms h1 t ht (at_none ha) fr to).mono (fun e w' q => ⟨_, [], q.1, World.ownsRow_nil _ _ _ _, rfl, hnil w' q.2, by rw [q.2]; exact Frm.refl _ _⟩)
  | some x =>
    obtain ⟨i, n, tr⟩ := x
    obtain ⟨q1, rfl⟩ := at_some ha
    obtain ⟨l, q2⟩ := Mn.pl h1 q1
    have hf := h.few (n, tr) (List.mem_of_getElem? q1)
    by_cases hr : tr.reads.length = 256
    · simp only [if_pos hr]
      exact (tscan_many w g ob ps ms h1 i n tr l q1 q2 fr to hr).mono (fun e w' q => ⟨_, [], q.1, World.ownsRow_nil _ _ _ _, rfl, hnil w' q.2, by rw [q.2]; exact Frm.refl _ _⟩)
    · simp only [if_neg hr]
      have hrl : tr.reads.length < 256 := by have := hf.1; dsimp only at this; omega
      refine (tscan_ok w g ob ps ms h1 i n tr l q1 q2 fr to hrl hf.2).mono ?_
      rintro e w' ⟨vv, l', rfl, hrow, hpm, v, hM, hF, hv, hvv⟩
      have hS : ∀ j, l.has j → ¬ X j := fun j hj => h2 j (.inr (.inr ⟨l, List.mem_of_getElem? q2, hj⟩))
      have hX : ∀ j, SM g ob (ps.set i ⟨l.p, l.wb, v⟩) j → ¬ X j := sm_set q2 h2 (fun j hj => by
        rcases hj with hj | hj | hj
        · exact .inl (.inl hj)
        · exact .inl (.inr (.inl hj))
        · rcases hv j hj with h' | h'
          · exact .inl h'
          · exact .inr (fun hx => by have := h.xb j hx; omega))
      have hgs : w'.heap[g]? = w.heap[g]? := hF.block _ (h1.ltS (.inl rfl)) (h1.far l (List.mem_of_getElem? q2)).1
      refine ⟨vv, l', rfl, hrow, hpm, ⟨⟨ob, _, hM, fun j hj hx => ?_⟩, fun b hb hx => ?_, few_turn h.few ⟨by simp [Tr.read]; omega, hf.2⟩, fun j hj => ?_⟩, hF.mono (fun j _ hj => hS j hj)⟩
      · rcases hx with hx | hx
        · exact hX j hj hx
        · obtain ⟨W, _, hMW, hle, _⟩ := hvv j hx
          have := hMW.ltS hj
          omega
      · rcases hx with hx | hx
        · exact h.ver b (hb.same hgs) hx
        · obtain ⟨W, _, hMW, hle, hg⟩ := hvv b hx
          have := vb_lt hMW (hb.same hg.symm)
          omega
      · rcases hj with hj | hj
        · exact Nat.lt_of_lt_of_le (h.xb j hj) hF.size
        · exact (hrow.lt j hj).2
/-- Abort -/
def mAbort (ms : Mg) (t : Int) : Mg × Int := match ms.at t with
  | none => (ms, 11)
  | some (i, _, _) => (ms.ended i, 0)
set_option maxHeartbeats 1000000 in
theorem mn_abort (X : Nat → Prop) (w : World) (g : Nat) (ms : Mg) (h : Mn X w g ms) (t : Int) (ht : -9223372036854775808 ≤ t ∧ t ≤ 9223372036854775807) :
    Calls Tryz.prog 36 #[.pointer (some ⟨g, 0, none⟩), .int .i64 t] w fun e w' => e = .returned (.int .i64 (mAbort ms t).2) ∧ Mn X w' g (mAbort ms t).1 ∧ Frm (fun i => ¬ X i) w w' := by
  obtain ⟨ob, ps, h1, h2⟩ := h.ex
  unfold mAbort
  cases ha : ms.at t with
  | none =>
    have HF := hide (find_no _ g ob ps ms h1 t ht (at_none ha))
    have HM := hide h
    clear h h1 h2 ht ha
    go_enter Tryz.func36, Tryz.ntmps36
    go_wp2_with fail
    refine HF.out.mono ?_
    rintro e w' ⟨rfl, rfl⟩
    go_wp2
    go_ret
    exact ⟨rfl, HM.out, Frm.refl _ _⟩
  | some x =>
    obtain ⟨i, n, tr⟩ := x
    obtain ⟨q1, rfl⟩ := at_some ha
    obtain ⟨l, q2⟩ := Mn.pl h1 q1
    have HF := hide (find_yes _ g ob ps ms h1 i n tr l q1 q2)
    have HE : Hid (Calls Tryz.prog 59 #[.pointer (some ⟨g, 0, none⟩), .int .i64 (n : Int)] w fun e w' => e = .returned (.tuple #[]) ∧ Mn X w' g (ms.ended i) ∧ Frm (fun i => ¬ X i) w w') := hide ((end_any w g ob ps ms h1 i n tr l q1 q2).mono (by
      rintro e w' ⟨rfl, hM, hF, hvb⟩
      refine ⟨rfl, ⟨⟨ob, _, hM, fun j hj => h2 j (sm_less hj)⟩, fun b hb hx => ?_, fun y hy => ?_, fun j hj => Nat.lt_of_lt_of_le (h.xb j hj) hF.size⟩, hF.mono (fun j _ hj => hj.elim (fun e => h2 j (.inl e)) (fun e => h2 j (.inr (.inl e))))⟩
      · rcases hvb b hb with h' | h'
        · exact h.ver b h' hx
        · have := h.xb b hx; omega
      · rw [ended_opn] at hy
        exact h.few y (List.mem_of_mem_eraseIdx hy)))
    clear h h1 h2 ht ha q1 q2
    dsimp only
    go_enter Tryz.func36, Tryz.ntmps36
    go_wp2_with fail
    refine HF.out.mono ?_
    rintro e w' ⟨rfl, rfl⟩
    go_wp2_with fail
    refine HE.out.mono ?_
    rintro e w2 ⟨rfl, hM, hF⟩
    have H2 := hide (And.intro hM hF)
    clear hM hF HE HF
    go_wp2
    go_ret
    exact ⟨rfl, H2.out.1, H2.out.2⟩
end Go.Proofs.YtlkmcbelmldleaaGreat

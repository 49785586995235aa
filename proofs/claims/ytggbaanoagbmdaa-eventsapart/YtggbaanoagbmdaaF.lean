/- maps of counts -/
import Derived.DeepKeys4
import Derived.Maps.OwnSet
import Derived.WideKeyEntry
import Derived.Test.YtggbaanoagbmdaaB
import Derived.Test.YtggbaanoagbmdaaE
namespace Go.Proofs.Ytggbaanoagbmdaa
open Go.RowKit Go.WideMaps Go.WideElems Go.ChangeMaps
theorem laidOutM : laidOutB Try.prog = true := by kernel_rfl
theorem row54 : (54 : TypeId) < Try.prog.types.size := of_decide_eq_true (by kernel_rfl)
theorem wide54 : (match Try.prog.underlying 54 with | some (.array _ _) | some (.struct _) => true | _ => false) = true := by kernel_rfl
theorem law54 : KeyLaw Try.prog 54 := deep_law_laid laidOutM (m := 2) (by omega) row54 (by kernel_rfl) wide54
theorem keyed54 : Maps.Keyed Try.prog 54 := Maps.Keyed.of_law law54
theorem keyed9 : Maps.Keyed Try.prog 9 := Maps.string_keyed Try.underlying9
theorem cells54 : Try.prog.cellsOf 54 = 2 := by kernel_rfl
theorem cells9 : Try.prog.cellsOf 9 = 1 := by kernel_rfl
theorem kt54 : Try.prog.keyType 54 = true := by kernel_rfl
theorem types_big : ∃ m, Try.prog.types.size = m + 2 := ⟨113, by kernel_rfl⟩
theorem key54 (s m : ByteArray) (hs : s.size ≤ maxLen) (hm : m.size ≤ maxLen) : ∃ kl, keyOf Try.prog 54 (.agg #[.string s, .string m]) = some kl := by
  obtain ⟨n, hn⟩ := types_big
  unfold keyOf
  simp only [Try.underlying54, kt54, hn]
  simp [Value.formed, Try.underlying54, cells54, Program.keyLits, Value.cells, Try.underlying9, cells9, hs, hm]
theorem str_inj {a b : ByteArray} (h : a.toList = b.toList) : a = b := by
  rw [ByteArray.toList_eq, ByteArray.toList_eq] at h
  exact WideShapes.bytes_inj h
theorem zero3 (w : World) : (zeroValue 3).run Try.prog w = .ok (.int .i64 0) w := by
  exact Try.zeroValue3 w
theorem turned_grown {w : World} {b : Nat} {es es' : Array MapEntry} {c c' : Nat} (hb : w.heap[b]? = some (.map es c)) : w.grownBy (setBlock w b (.map es' c')) (some b) :=
  ⟨rfl, rfl, rfl, by simp [setBlock], fun i _ hi => heap_setBlock_other hb _ (fun e => hi (by rw [e]))⟩
/-- an entry is made, and then stored into: 'm[k]++' where the key is a struct -/
theorem entry54 {w : World} {b n : Nat} {D : DataW Unit} (h : w.ownsMap Try.prog 54 (plainElem (H := Unit) Try.prog 3) b n D) (hn : n < maxLen) {key : Value} {kl : Lit} (hkey : keyOf Try.prog 54 key = some kl) :
    ∃ (v0 : Value) (st : Nat) (w1 : World), (Instr.mapEntry 52 (.map (some b)) key).run Try.prog w = .ok (.tuple #[v0, .int .i64 st]) w1 ∧ w.grownBy w1 (some b) ∧
      (∃ D1, w1.ownsMap Try.prog 54 (plainElem (H := Unit) Try.prog 3) b (n + 1) D1 ∧ D1.atKey kl (.lit (.int .i64 0)) = D.atKey kl (.lit (.int .i64 0))) ∧
      ∀ (val : Value) (d : DataW Unit) (ps : List MemPlace), (plainElem (H := Unit) Try.prog 3) val = some (d, ps) → ∃ w2, (Instr.entryStore 52 (.map (some b)) (.int .i64 st) val).run Try.prog w1 = .ok () w2 ∧ w.grownBy w2 (some b) ∧ w2.ownsMap Try.prog 54 (plainElem (H := Unit) Try.prog 3) b (n + 1) (D.put kl d) := by
  have h0 := h
  obtain ⟨es, clock, hb, F, hs, rfl⟩ := h
  obtain ⟨v0, st, es1, clock1, hrun, halt, hst⟩ := entry_then_store (w := w) law54 Try.underlying52 zero3 hb F hkey
  refine ⟨v0, st, _, hrun, turned_grown hb, ?_, fun val d ps hv => ?_⟩
  · rcases keyed54.find w hkey es.toList F.keys with ⟨h1, h2⟩ | ⟨j, e0, h1, h2, h3⟩
    · obtain ⟨w', hu, hown, _⟩ := h0.update keyed54 Try.underlying52 hn hkey (val := .int .i64 0) (d := .lit (.int .i64 0)) (ps := []) (plainElem_int Try.underlying3 (by decide))
      have e1 : (Instr.mapEntry 52 (.map (some b)) key).run Try.prog w = .ok (.tuple #[.int .i64 0, goInt clock]) (setBlock w b (.map (es.push ⟨key, .int .i64 0, clock⟩) (clock + 1))) := by
        simp [Instr.mapEntry, run_underlying Try.underlying52, MapKept.run_getObj_map hb, keyed54.check w false hkey, h1, MapKept.run_setObj_map _ hb, Result.andThen, setBlock]
      have e2 : (Instr.mapUpdate 52 (.map (some b)) key (.int .i64 0)).run Try.prog w = .ok () (setBlock w b (.map (es.push ⟨key, .int .i64 0, clock⟩) (clock + 1))) := by
        simp [Instr.mapUpdate, run_underlying Try.underlying52, MapKept.run_getObj_map hb, keyed54.check w false hkey, h1, MapKept.run_setObj_map _ hb, Result.andThen, setBlock]
      have e3 := hrun.symm.trans e1
      have e4 := hu.symm.trans e2
      injection e3 with _ e3
      injection e4 with _ e4
      rw [e3, ← e4]
      refine ⟨_, hown, ?_⟩
      rw [Maps.atKey_put_same h0.isMap (keyed54.key hkey)]
      rcases Maps.fit_look false keyed54 Try.underlying52 (zero3 w) hb F hkey with ⟨_, _, hat⟩ | ⟨e0, y, hin, hk, _⟩
      · exact (hat _).symm
      · exact absurd hk (h2 e0 hin)
    · have hj : es[j]? = some e0 := by simpa using h2
      have hsame : es.modify j (fun e => { e with key := key }) = es := by
        apply Array.ext'
        rw [Array.toList_modify, modify_eq_set _ _ _ _ h2]
        have : ({ e0 with key := key } : MapEntry) = e0 := by rw [← h3]
        rw [this]
        exact set_self _ _ _ h2
      have e1 : (Instr.mapEntry 52 (.map (some b)) key).run Try.prog w = .ok (.tuple #[e0.val, goInt e0.born]) (setBlock w b (.map es clock)) := by
        simp [Instr.mapEntry, run_underlying Try.underlying52, MapKept.run_getObj_map hb, keyed54.check w false hkey, h1, hj, h3, keyed54.stays w hkey, hsame, MapKept.run_setObj_map _ hb, Result.andThen, setBlock]
      have e3 := hrun.symm.trans e1
      injection e3 with _ e3
      rw [e3]
      exact ⟨_, ⟨es, clock, heap_setBlock_same hb _, F, by omega, rfl⟩, rfl⟩
  · obtain ⟨es', clock', h1, h2⟩ := hst (setBlock w b (.map es1 clock1)) val (heap_setBlock_same hb _)
    obtain ⟨w', hu, hown, hg⟩ := h0.update keyed54 Try.underlying52 hn hkey hv
    have e4 := hu.symm.trans h2
    injection e4 with _ e4
    rw [e4] at hown hg
    refine ⟨_, h1, ?_, ?_⟩
    · rw [show setBlock (setBlock w b (.map es1 clock1)) b (.map es' clock') = setBlock w b (.map es' clock') by simp [setBlock]]; exact hg
    · rw [show setBlock (setBlock w b (.map es1 clock1)) b (.map es' clock') = setBlock w b (.map es' clock') by simp [setBlock]]; exact hown
/-- how many of the first k are a stream's -/
def cntS (l : List Ev) (k : Nat) (s : ByteArray) : Nat := ((l.take k).filter (isOf s)).length
def isM (s m : ByteArray) (x : Ev) : Bool := isOf s x && hasM m x
def cntM (l : List Ev) (k : Nat) (s m : ByteArray) : Nat := ((l.take k).filter (isM s m)).length
theorem cnt_le {p : Ev → Bool} {l : List Ev} {k : Nat} : ((l.take k).filter p).length ≤ k :=
  Nat.le_trans (List.length_filter_le _ _) (by simp; omega)
def Cnt9 (D : DataW Unit) (l : List Ev) (k : Nat) : Prop := ∀ s : ByteArray, D.atKey (.string s.data.toList) (.lit (.int .i64 0)) = .lit (.int .i64 (cntS l k s : Nat))
def Cnt54 (D : DataW Unit) (l : List Ev) (k : Nat) : Prop := ∀ (s m : ByteArray) (kl : Lit), keyOf Try.prog 54 (.agg #[.string s, .string m]) = some kl → D.atKey kl (.lit (.int .i64 0)) = .lit (.int .i64 (cntM l k s m : Nat))
theorem at_nil (kl : Lit) (z : DataW Unit) : (DataW.map [] : DataW Unit).atKey kl z = z := rfl
theorem Cnt9.start (l : List Ev) : Cnt9 (.map []) l 0 := fun s => by rw [at_nil]; simp [cntS]
theorem Cnt54.start (l : List Ev) : Cnt54 (.map []) l 0 := fun s m kl _ => by rw [at_nil]; simp [cntM]
theorem isOf_self (x : Ev) : isOf x.st x = true := by simp [isOf]
theorem isM_self (x : Ev) : isM x.st x.ma x = true := by simp [isM, isOf, hasM]
theorem Cnt9.step {D : DataW Unit} {l : List Ev} {k : Nat} (h : Cnt9 D l k) (hm : Maps.IsMap D) (hk : k < l.length) : Cnt9 (D.put (.string (l.getD k Ev0).st.data.toList) (.lit (.int .i64 (cntS l k (l.getD k Ev0).st + 1 : Nat)))) l (k + 1) := by
  intro s
  by_cases e : s = (l.getD k Ev0).st
  · subst e
    rw [Maps.atKey_put_same hm (show WideAt.IsKeyLit (.string _) from trivial)]
    unfold cntS
    rw [take_filter_pos (isOf (l.getD k Ev0).st) l k Ev0 hk (isOf_self _), List.length_append]
    rfl
  · rw [Maps.atKey_put_other (fun e' => e (by simp only [Lit.string.injEq] at e'; exact WideShapes.bytes_inj e')), h s]
    unfold cntS
    rw [take_filter_neg (isOf s) l k Ev0 hk (decide_eq_false (fun e' => e (str_inj e').symm))]
theorem Cnt54.step {D : DataW Unit} {l : List Ev} {k : Nat} (h : Cnt54 D l k) (hm : Maps.IsMap D) (hk : k < l.length) {kl : Lit} (hkl : keyOf Try.prog 54 (.agg #[.string (l.getD k Ev0).st, .string (l.getD k Ev0).ma]) = some kl) :
    Cnt54 (D.put kl (.lit (.int .i64 (cntM l k (l.getD k Ev0).st (l.getD k Ev0).ma + 1 : Nat)))) l (k + 1) := by
  intro s m kl' hkl'
  by_cases e : s = (l.getD k Ev0).st ∧ m = (l.getD k Ev0).ma
  · obtain ⟨rfl, rfl⟩ := e
    rw [hkl] at hkl'
    cases hkl'
    rw [Maps.atKey_put_same hm (keyed54.key hkl)]
    unfold cntM
    rw [take_filter_pos (isM _ _) l k Ev0 hk (isM_self _), List.length_append]
    rfl
  · have hne : kl' ≠ kl := fun e' => by
      subst e'
      have := keyed54.inj hkl hkl'
      simp at this
      exact e ⟨this.1.symm, this.2.symm⟩
    rw [Maps.atKey_put_other hne, h s m kl' hkl']
    unfold cntM
    rw [take_filter_neg (isM s m) l k Ev0 hk (by
      cases hh : isM s m (l.getD k Ev0)
      · rfl
      · simp only [isM, Bool.and_eq_true, isOf, hasM, decide_eq_true_eq] at hh
        exact absurd ⟨(str_inj hh.1).symm, (str_inj hh.2).symm⟩ e)]
end Go.Proofs.Ytggbaanoagbmdaa

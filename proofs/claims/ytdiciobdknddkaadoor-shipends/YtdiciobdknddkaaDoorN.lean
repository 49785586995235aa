/- bytes that are handed in; the states that were seen -/
import Derived.Test.YtdiciobdknddkaaDoorLawAgrees
import Derived.Test.YtdiciobdknddkaaDoorO
import Derived.ChangeSlices
import Derived.Laws.OwnMore
namespace Go.Proofs.YtdiciobdknddkaaDoor
open Go.RowKit Go.ChangeShapes Go.WideShapes
set_option linter.unusedVariables false
/-- small numbers in memory -/
def IsB (w : World) (a : Option Addr) (len cap : Nat) (l : List Int) : Prop :=
  l.length = len ∧ len ≤ cap ∧ cap ≤ maxLen ∧ (∀ x ∈ l, u8B x) ∧ (∀ i, i < len → ∃ b off, a = some ⟨b, off, none⟩ ∧ b < w.heap.size ∧ w.cell? ⟨b, off + i, none⟩ = some (.int .u8 (l.getD i 0)))
theorem isB_nil (w : World) : IsB w none 0 0 [] := ⟨rfl, Nat.le_refl _, Nat.zero_le _, by simp, fun i hi => by omega⟩
theorem IsB.below {w w' : World} {a : Option Addr} {len cap : Nat} {l : List Int} (h : IsB w a len cap l) (hb : Below w.heap.size w w') : IsB w' a len cap l := by
  refine ⟨h.1, h.2.1, h.2.2.1, h.2.2.2.1, fun i hi => ?_⟩
  obtain ⟨b, off, e, hlt, h0⟩ := h.2.2.2.2 i hi
  exact ⟨b, off, e, Nat.lt_of_lt_of_le hlt hb.size, (World.cell?_of_block (hb.block b hlt)).trans h0⟩
theorem bytes23 : Tryd.prog.bytesOf 23 = 1 := by kernel_rfl
theorem bytes32 : Tryd.prog.bytesOf 32 = 1 := by kernel_rfl
theorem open_small {H : Type} {enc : TypeId × Value → H} {W : World} {base : Nat} {held : Bool} {t e : TypeId} {fuel : Nat} {cs : List Value} {x : DataW H × List MemPlace} (ht : Tryd.prog.underlying t = some (.slice e)) (he : Tryd.prog.underlying e = some (.int .u8)) (hc : Tryd.prog.cellsOf e = 1) (hby : Tryd.prog.bytesOf e = 1)
    (h : DataW.trod enc Tryd.prog W base (fun _ => true) held fuel t cs = some x) (hlt : ∀ p ∈ x.2, p.block < W.heap.size) (hw : ∀ n ∈ x.1.weights Tryd.prog t, n ≤ reachBytes) :
    ∃ a len cap l, cs = [.slice a len cap] ∧ IsB W a len cap l ∧ len * 1 ≤ 140737488355328 := by
  rcases open_ints ht he hc h with ⟨rfl, _⟩ | ⟨a, len, cap, zs, rfl, _, hl, hm, hz, rfl, hcell, hwz⟩
  · exact ⟨none, 0, 0, [], rfl, isB_nil W, by omega⟩
  · simp only [if_true] at hz
    simp only [DataW.weights, ht] at hw
    have hw1 := hw _ (List.mem_cons_self ..)
    rw [hby] at hw1
    simp only [lits, List.length_map, List.length_take, List.length_drop, reachBytes] at hw1
    refine ⟨some a, len, cap, zs.take len, rfl, ⟨by rw [List.length_take]; omega, hl, hm, fun y hy => wf_bounds8 (hwz y (List.mem_of_mem_take hy)), fun i hi => ?_⟩, by omega⟩
    obtain ⟨b, off, spot⟩ := a
    have hspot : spot = none := by
      have := World.cell?_spot (hcell 0 (by omega))
      simpa [Addr.add] using this
    subst hspot
    refine ⟨b, off, rfl, hlt (.cell b off) (MemPlace.mem_row.2 ⟨0, by omega, by simp⟩), ?_⟩
    have hc := hcell i (by omega)
    rw [oadd0] at hc
    rw [hc]
    have hi' : i < zs.length := by omega
    simp [List.getD_eq_getElem?_getD, hi, List.getElem?_eq_getElem hi']
theorem cells23 : Tryd.prog.cellsOf 23 = 1 := by kernel_rfl
theorem cells32 : Tryd.prog.cellsOf 32 = 1 := by kernel_rfl
theorem open_bytes39 {H : Type} {enc : TypeId × Value → H} {W : World} {base : Nat} {held : Bool} {fuel : Nat} {cs : List Value} {x : DataW H × List MemPlace} (h : DataW.trod enc Tryd.prog W base (fun _ => true) held fuel 39 cs = some x) (hlt : ∀ p ∈ x.2, p.block < W.heap.size) (hw : ∀ n ∈ x.1.weights Tryd.prog 39, n ≤ reachBytes) :
    ∃ a len cap l, cs = [.slice a len cap] ∧ IsB W a len cap l ∧ len * 1 ≤ 140737488355328 := open_small Tryd.underlying39 Tryd.underlying23 cells23 bytes23 h hlt hw
theorem open_bytes40 {H : Type} {enc : TypeId × Value → H} {W : World} {base : Nat} {held : Bool} {fuel : Nat} {cs : List Value} {x : DataW H × List MemPlace} (h : DataW.trod enc Tryd.prog W base (fun _ => true) held fuel 40 cs = some x) (hlt : ∀ p ∈ x.2, p.block < W.heap.size) (hw : ∀ n ∈ x.1.weights Tryd.prog 40, n ≤ reachBytes) :
    ∃ a len cap l, cs = [.slice a len cap] ∧ IsB W a len cap l ∧ len * 1 ≤ 140737488355328 := open_small Tryd.underlying40 Tryd.underlying32 cells32 bytes32 h hlt hw
/-- the states that were seen, in a row of the call's own -/
def SeenAt (w : World) (base g cp : Nat) (zs : List Int) : Prop := w.ownsRow base 22 1 (.slice (some ⟨g, 0, none⟩) zs.length cp) zs.length (zs.map (Value.int .u8))
theorem SeenAt.below {w w' : World} {base g cp : Nat} {zs : List Int} (h : SeenAt w base g cp zs) (hb : Below w.heap.size w w') : SeenAt w' base g cp zs :=
  World.ownsRow.kept (row := none) h ⟨hb.os, hb.tape, hb.output, hb.size, fun k hk _ => hb.block k hk⟩ (.inr (by intro e; cases e))
theorem SeenAt.lt {w : World} {base g cp : Nat} {zs : List Int} (h : SeenAt w base g cp zs) : base ≤ g ∧ g < w.heap.size := World.ownsRow.lt h g rfl
theorem SeenAt.cell {w : World} {base g cp : Nat} {zs : List Int} (h : SeenAt w base g cp zs) (j : Nat) (hj : j < zs.length) : w.cell? ⟨g, j, none⟩ = some (.int .u8 (zs.getD j 0)) := by
  rw [World.ownsRow.cellAt h j (by omega)]
  simp [List.getD_eq_getElem?_getD, List.getElem?_eq_getElem hj]
theorem info22 : (Tryd.prog.info? 22).map (fun i => (i.zero, i.size, i.bytes)) = some (some (.int .u8 0), 1, 1) := by kernel_rfl
/-- append(seen, s) -/
theorem wpList_push {w : World} {ops : Array Oper} {rest : List Oper} {o : Oper} {a : Act} {Q : Exit → Act → World → Prop} (hgd : o.guard = none) (s x : Operand)
    (ho : o.op = .call { callee := .builtin .append, args := #[s, x], argTypes := #[43, 43] }) (base g cp : Nat) (zs : List Int) (st : Int) (q : Nat) (hs : a.eval s = .slice (some ⟨g, 0, none⟩) zs.length cp) (hown : SeenAt w base g cp zs)
    (hx : a.eval x = .slice (some ⟨q, 0, none⟩) 1 1) (hq : w.cell? ⟨q, 0, none⟩ = some (.int .u8 st)) (hn : zs.length ≤ 100) (hbase : base ≤ w.heap.size)
    (h : ∀ g' cp' w', Hid (SeenAt w' base g' cp' (zs ++ [st]) ∧ w.grownBy w' (some g) ∧ (g' = g ∨ g' = w.heap.size)) → wpList Tryd.prog ops Q rest (a.put o.dst (.slice (some ⟨g', 0, none⟩) (zs.length + 1) cp')) w') : wpList Tryd.prog ops Q (o :: rest) a w := by
  obtain ⟨i0, hi, hz0, hz1, hz2⟩ := info_partsC info22
  refine wpList_append_own_at w hgd s x 43 ho base 22 i0 (.int .u8 0) 1 1 Tryd.underlying43 hi hz0 hz1 hz2 rfl (by decide) _ _ _ hs hown ⟨q, 0, none⟩ 1 1 [.int .u8 st] hx rfl ?_ (ints_oneCell .u8 [st]) (by unfold maxLen; omega) (by omega) hbase ?_
  · intro j u hj
    cases j with
    | zero => cases hj; simpa [Addr.add] using hq
    | succ j => simp at hj
  · intro v' w' hown' hg _ hloc
    rcases hown'.2 with ⟨_, h0⟩ | ⟨g', cp', cur, rfl, hb⟩
    · omega
    · refine h g' cp' w' (hide ⟨?_, hg, ?_⟩)
      · unfold SeenAt
        rw [List.length_append, List.map_append]
        exact hown'
      · rcases hloc with e | e
        · exact .inl (Option.some.inj e)
        · exact .inr (Option.some.inj e)
/-- shipments in a row that is not the one that was written -/
theorem IsH.grown {w w' : World} {a : Option Addr} {len cap g : Nat} {l : List Sh} (h : IsH w a len cap l) (hg : w.grownBy w' (some g)) (hne : ∀ b off, a = some ⟨b, off, none⟩ → b ≠ g) : IsH w' a len cap l := by
  refine ⟨h.1, h.2.1, h.2.2.1, h.2.2.2.1, fun i hi => ?_, h.2.2.2.2.2⟩
  obtain ⟨b, off, e, hlt, h0⟩ := h.2.2.2.2.1 i hi
  exact ⟨b, off, e, Nat.lt_of_lt_of_le hlt hg.size, h0.block fun j => World.cell?_of_block (hg.block b hlt (fun e' => hne b off e (Option.some.inj e')))⟩
/-- how far a state is -/
def rk (s : Int) : Nat := if s = 1 then 1 else if s = 2 then 2 else if s = 3 then 3 else if s = 5 then 4 else if s = 4 ∨ s = 6 then 5 else 0
theorem rk_le (s : Int) : rk s ≤ 5 := by unfold rk; repeat' split
                                         all_goals omega
theorem rk_mk {s m : Int} (h : mk s m ≠ 0) : rk s < rk (mk s m) := by
  unfold mk at h ⊢
  repeat' split
  all_goals first | (rename_i h'; obtain ⟨rfl, rfl⟩ := h'; decide) | skip
  all_goals simp_all
theorem rk_end {s : Int} (h : rk s < 5) : enB s = false := by
  unfold enB
  rw [decide_eq_false_iff_not]
  rintro (rfl | rfl) <;> exact absurd h (by decide)
/-- what was seen up to a state -/
def Seen (zs : List Int) (s : Int) : Prop := zs.length ≤ rk s + 1 ∧ ∀ x ∈ zs, u8B x ∧ rk x ≤ rk s
theorem Seen.on {zs : List Int} {s m : Int} (h : Seen zs s) (hm : mk s m ≠ 0) : zs.length ≤ 5 ∧ (∀ x ∈ zs, x ≠ mk s m ∧ enB x = false) ∧ Seen (zs ++ [mk s m]) (mk s m) := by
  have h1 := rk_mk hm
  have h2 := rk_le (mk s m)
  have h3 := mk_le s m
  refine ⟨by have := h.1; omega, fun x hx => ⟨fun e => ?_, rk_end ?_⟩, ?_, fun x hx => ?_⟩
  · have := (h.2 x hx).2; rw [e] at this; omega
  · have := (h.2 x hx).2; omega
  · have := h.1; simp only [List.length_append, List.length_singleton]; omega
  · rcases List.mem_append.1 hx with hx | hx
    · exact ⟨(h.2 x hx).1, by have := (h.2 x hx).2; omega⟩
    · rw [List.mem_singleton.1 hx]
      exact ⟨by unfold u8B; omega, Nat.le_refl _⟩
theorem move_refused {l l' : List Sh} {n m v er : Int} (h : moveR l n m v = (l', er)) (h0 : er ≠ 0) : l' = [] := by
  rw [moveR_L] at h
  repeat' split at h
  all_goals (cases h; first | rfl | exact absurd rfl h0)
end Go.Proofs.YtdiciobdknddkaaDoor

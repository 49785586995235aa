/- PlanBack: rows, facts -/
import Derived.Test.YtmkholgflhaacaaLawEnds
import Derived.ChangeSlices
namespace Go.Proofs.Ytmkholgflhaacaa
open Go.RowKit Go.ChangeShapes Go.WideShapes
set_option linter.unusedVariables false
/-- answers in memory -/
def IsL (w : World) (a : Option Addr) (len cap : Nat) (l : List Bool) : Prop :=
  len ≤ cap ∧ cap ≤ maxLen ∧ (∀ i, i < len → ∃ b off, a = some ⟨b, off, none⟩ ∧ b < w.heap.size ∧ w.cell? ⟨b, off + i, none⟩ = some (.bool (l.getD i false)))
theorem IsL.below {w w' : World} {a : Option Addr} {len cap : Nat} {l : List Bool} (h : IsL w a len cap l) (hb : Below w.heap.size w w') : IsL w' a len cap l := by
  refine ⟨h.1, h.2.1, fun i hi => ?_⟩
  obtain ⟨b, off, e, hlt, h0⟩ := h.2.2 i hi
  exact ⟨b, off, e, Nat.lt_of_lt_of_le hlt hb.size, (World.cell?_of_block (hb.block b hlt)).trans h0⟩
theorem oadd (a : Addr) (i j : Nat) : (a.add i).add j = a.add (i + j) := by
  cases a with
  | mk b off sp => by_cases hi : i = 0 <;> by_cases hj : j = 0 <;> simp [Addr.add, hi, hj] <;> omega
theorem oadd0 (b off i : Nat) : (⟨b, off, none⟩ : Addr).add i = ⟨b, off + i, none⟩ := by
  by_cases hi : i = 0 <;> simp [Addr.add, hi]
theorem ochoose {α : Type} (d : α) {n : Nat} {Pr : Nat → α → Prop} (h : ∀ i, i < n → ∃ x, Pr i x) : ∃ f : Nat → α, ∀ i, i < n → Pr i (f i) :=
  ⟨fun i => if hi : i < n then Classical.choose (h i hi) else d, fun i hi => by simp only [dif_pos hi]; exact Classical.choose_spec (h i hi)⟩
theorem obytes4 : Try.prog.bytesOf 4 = 1 := by kernel_rfl
theorem open_bools {H : Type} {enc : TypeId × Value → H} {W : World} {base : Nat} {spare : Nat → Bool} {held : Bool} {fuel : Nat} {cs : List Value} {x : DataW H × List MemPlace} (h : DataW.trod enc Try.prog W base spare held fuel 44 cs = some x) (hlt : ∀ p ∈ x.2, p.block < W.heap.size) (hw : ∀ n ∈ x.1.weights Try.prog 44, n ≤ reachBytes) :
    ∃ a len cap l, cs = [.slice a len cap] ∧ IsL W a len cap l ∧ len ≤ 140737488355328 := by
  rcases Deep.open_slice Try.underlying44 h with ⟨rfl, _⟩ | ⟨a, len, cap, m, n, D, Pl, rfl, hb, hl, hm, hmm, rfl, hx⟩
  · exact ⟨none, 0, 0, [], rfl, ⟨Nat.le_refl _, Nat.zero_le _, fun i hi => by omega⟩, by omega⟩
  · have hlm : len ≤ m := by rw [hmm]; split <;> omega
    simp only [DataW.weights, Try.underlying44] at hw
    have hw1 := hw _ (List.mem_cons_self ..)
    rw [obytes4] at hw1
    simp only [List.length_map, List.length_range, reachBytes] at hw1
    have each : ∀ i, i < len → ∃ e : Bool, W.cell? (a.add i) = some (.bool e) := by
      intro i hi
      obtain ⟨cs', h1, h2⟩ := hx i (by omega)
      rw [ocells4] at h1
      obtain ⟨e, rfl, _⟩ := DataW.trod_bool Try.underlying4 h2
      obtain ⟨_, _, hcell⟩ := World.cells?_some h1
      have e0 := hcell 0 (by omega)
      rw [oadd] at e0
      exact ⟨e, by simpa using e0⟩
    obtain ⟨f, hf⟩ := ochoose false each
    refine ⟨some a, len, cap, (List.range len).map f, rfl, ⟨hl, hm, fun i hi => ?_⟩, by omega⟩
    obtain ⟨b, off, spot⟩ := a
    have hspot : spot = none := by
      have := World.cell?_spot (hf 0 (by omega))
      simpa [Addr.add] using this
    subst hspot
    have hg : ((List.range len).map f).getD i false = f i := by simp [List.getD_eq_getElem?_getD, hi]
    rw [hg]
    refine ⟨b, off, rfl, ?_, ?_⟩
    · refine hlt (.cell b off) (List.mem_append_left _ ?_)
      exact MemPlace.mem_row.2 ⟨0, by rw [ocells4]; omega, by simp⟩
    · have := hf i hi; rw [oadd0] at this; exact this
theorem info23 : (Try.prog.info? 23).map (fun i => (i.zero, i.size, i.bytes)) = some (some (.int .u8 0), 1, 1) := by kernel_rfl
theorem info_partsK {i? : Option TypeInfo} {z : Option Value} {s b : Nat} (h : i?.map (fun i => (i.zero, i.size, i.bytes)) = some (z, s, b)) : ∃ i, i? = some i ∧ i.zero = z ∧ i.size = s ∧ i.bytes = b := by
  cases i? with
  | none => cases h
  | some i => simp at h; exact ⟨i, rfl, h.1, h.2.1, h.2.2⟩
/-- append(done, step) -/
theorem wpList_stepK {w : World} {ops : Array Oper} {rest : List Oper} {o : Oper} {a : Act} {Q : Exit → Act → World → Prop} (hgd : o.guard = none) (s x : Operand)
    (ho : o.op = .call { callee := .builtin .append, args := #[s, x], argTypes := #[26, 26] }) (base : Nat) (v : Value) (zs : List Int) (st : Int) (q : Nat) (hs : a.eval s = v) (hown : OwnK w base v zs)
    (hx : a.eval x = .slice (some ⟨q, 0, none⟩) 1 1) (hq : w.cell? ⟨q, 0, none⟩ = some (.int .u8 st)) (hn : zs.length ≤ 100) (hbase : base ≤ w.heap.size)
    (h : ∀ v' w', Hid (OwnK w' base v' (zs ++ [st]) ∧ w.grownBy w' v.ownBlock) → wpList Try.prog ops Q rest (a.put o.dst v') w') : wpList Try.prog ops Q (o :: rest) a w := by
  obtain ⟨i0, hi, hz0, hz1, hz2⟩ := info_partsK info23
  refine wpList_append_own_at w hgd s x 26 ho base 23 i0 (.int .u8 0) 1 1 Try.underlying26 hi hz0 hz1 hz2 rfl (by decide) _ _ _ hs hown ⟨q, 0, none⟩ 1 1 [.int .u8 st] hx rfl ?_ (ints_oneCell .u8 [st]) (by unfold maxLen; omega) (by omega) hbase ?_
  · intro j u hj
    cases j with
    | zero => cases hj; simpa [Addr.add] using hq
    | succ j => simp at hj
  · intro v' w' hown' hg _ _
    refine h v' w' (hide ⟨?_, hg⟩)
    unfold OwnK
    rw [List.length_append, List.map_append]
    exact hown'
/-- a row of steps and a saga's block lie apart -/
theorem own_ne {w : World} {base g : Nat} {v : Value} {xs : List Int} {s : Sg} (h : OwnK w base v xs) (hb : Blk w g s) : some g ≠ v.ownBlock := by
  rcases h.2 with ⟨rfl, _⟩ | ⟨g', cap, cur, rfl, _, hg, _⟩
  · intro e; cases e
  · intro e
    have e' : g = g' := Option.some.inj e
    subst e'
    unfold Blk at hb
    rw [hg] at hb
    cases hb
theorem Blk.grownK {w w' : World} {g : Nat} {s : Sg} {row : Option Nat} (h : Blk w g s) (hg : w.grownBy w' row) (hne : some g ≠ row) : Blk w' g s := (hg.block g (heap_lt h) hne).trans h
/-- a saga is stored beside a row -/
theorem OwnK.put4 {w : World} {base g : Nat} {v : Value} {xs : List Int} {s : Sg} (h : OwnK w base v xs) (hb : Blk w g s) (y : Sg) : OwnK (put4 w g y) base v xs := by
  refine World.ownsRow.kept (row := some g) h ?_ ?_
  · unfold Go.Proofs.Ytmkholgflhaacaa.put4
    refine ⟨rfl, rfl, rfl, by simp, fun k hk hne => ?_⟩
    have hn : k ≠ g := fun e => hne (by rw [e])
    rw [Below.heap_setCell _ _ _ _ hn, Below.heap_setCell _ _ _ _ hn, Below.heap_setCell _ _ _ _ hn, Below.heap_setCell _ _ _ _ hn]
  · have := own_ne h hb
    exact .inr (fun e => this e.symm)
theorem OwnK.pop {w : World} {base : Nat} {a : Option Addr} {c n : Nat} {xs : List Int} (h : OwnK w base (.slice a (n + 1) c) (xs.take (n + 1))) (hx : n + 1 ≤ xs.length) : OwnK w base (.slice a n c) (xs.take n) := by
  have hl : (xs.take (n + 1)).length = n + 1 := by rw [List.length_take]; omega
  rcases h.2 with ⟨e, h0⟩ | ⟨g, cap, cur, e, hb, hg, hn, hm, hs, ht⟩
  · rw [hl] at h0; omega
  · simp only [Value.slice.injEq] at e
    obtain ⟨rfl, _, rfl⟩ := e
    rw [hl] at hn ht
    refine ⟨by simp, .inr ⟨g, c, cur, by rw [List.length_take]; congr 1; omega, hb, hg, by rw [List.length_take]; omega, hm, hs, ?_⟩⟩
    have e2 := congrArg (List.take n) ht
    rw [List.take_take, show min n ((n + 1) * 1) = n by omega, ← List.map_take, List.take_take, show min n (n + 1) = n by omega] at e2
    rw [List.length_take, show min n xs.length * 1 = n by omega]
    exact e2
/-- forward: what is next, and what comes of it -/
theorem fwd {k : Int} (hk : k = 1 ∨ k = 3) {i : Nat} (hi : i < nL k) : nextR ⟨1, k, i, false⟩ = ⟨(stepsL k).getD i 0, true, 0⟩ ∧ advR ⟨1, k, i, false⟩ true = (⟨1, k, (i : Int) + 1, false⟩, 0) ∧ (tuB ((stepsL k).getD i 0) = true → advR ⟨1, k, i, false⟩ false = (⟨1, k, i, true⟩, 0) ∧ (0 < i → k = 1 ∧ i ≤ 4)) := by
  rcases hk with rfl | rfl
  · rw [show nL 1 = 5 from rfl] at hi
    rcases (by omega : i = 0 ∨ i = 1 ∨ i = 2 ∨ i = 3 ∨ i = 4) with rfl | rfl | rfl | rfl | rfl <;> exact ⟨rfl, rfl, fun _ => ⟨rfl, fun _ => ⟨rfl, by omega⟩⟩⟩
  · rw [show nL 3 = 3 from rfl] at hi
    rcases (by omega : i = 0 ∨ i = 1 ∨ i = 2) with rfl | rfl | rfl
    · exact ⟨rfl, rfl, fun _ => ⟨rfl, fun h => by omega⟩⟩
    · exact ⟨rfl, rfl, fun h => absurd h (by decide)⟩
    · exact ⟨rfl, rfl, fun h => absurd h (by decide)⟩
theorem fwd_end {k : Int} (hk : k = 1 ∨ k = 3) : nextR ⟨1, k, (nL k : Int), false⟩ = ⟨0, false, 0⟩ := by
  rcases hk with rfl | rfl <;> rfl
theorem back {j : Nat} (hj : j + 1 ≤ 4) : nextR ⟨1, 1, (j : Int) + 1, true⟩ = ⟨unV ((stepsL 1).getD j 0), true, 0⟩ ∧ unB ((stepsL 1).getD j 0) = true ∧ advR ⟨1, 1, (j : Int) + 1, true⟩ false = (⟨1, 1, (j : Int) + 1, true⟩, 0) ∧ advR ⟨1, 1, (j : Int) + 1, true⟩ true = (⟨1, 1, j, true⟩, 0) := by
  rcases (by omega : j = 0 ∨ j = 1 ∨ j = 2 ∨ j = 3) with rfl | rfl | rfl | rfl <;> exact ⟨rfl, rfl, rfl, rfl⟩
theorem back_end {k : Int} (hk : k = 1 ∨ k = 3) : nextR ⟨1, k, 0, true⟩ = ⟨0, false, 0⟩ := by
  rcases hk with rfl | rfl <;> rfl
theorem take_snoc (l : List Int) (i : Nat) (h : i < l.length) : l.take i ++ [l.getD i 0] = l.take (i + 1) := by
  rw [List.take_add_one, List.getD_eq_getElem?_getD, List.getElem?_eq_getElem h]
  rfl
end Go.Proofs.Ytmkholgflhaacaa

/- cells that are handed in -/
import Derived.Test.YtffhkljegopjmaaDoorKA
import Derived.Deep.Slices
import Derived.ChangeSame
import Derived.SizedLaws
namespace Go.Proofs.YtffhkljegopjmaaDoor
open Go.RowKit Go.ChangeShapes Go.WideShapes Go.Deep
set_option maxRecDepth 40000
theorem ocells31 : Tryd.prog.cellsOf 43 = 6 := by kernel_rfl
theorem ocells2 : Tryd.prog.cellsOf 2 = 1 := by kernel_rfl
theorem ocells3 : Tryd.prog.cellsOf 3 = 1 := by kernel_rfl
theorem obytes31 : Tryd.prog.bytesOf 43 = 48 := by kernel_rfl
theorem oadd (a : Addr) (i j : Nat) : (a.add i).add j = a.add (i + j) := by
  cases a with
  | mk b off sp => by_cases hi : i = 0 <;> by_cases hj : j = 0 <;> simp [Addr.add, hi, hj] <;> omega
theorem oadd0 (b off i : Nat) : (⟨b, off, none⟩ : Addr).add i = ⟨b, off + i, none⟩ := by
  by_cases hi : i = 0 <;> simp [Addr.add, hi]
theorem ochoose {α : Type} (d : α) {n : Nat} {Pr : Nat → α → Prop} (h : ∀ i, i < n → ∃ x, Pr i x) : ∃ f : Nat → α, ∀ i, i < n → Pr i (f i) :=
  ⟨fun i => if hi : i < n then Classical.choose (h i hi) else d, fun i hi => by simp only [dif_pos hi]; exact Classical.choose_spec (h i hi)⟩
theorem wf_bounds {n : Int} (h : (Lit.int .i64 n).wf = true) : i64B n := by
  unfold i64B
  simpa [Lit.wf, IntKind.min, IntKind.max, IntKind.bits, IntKind.signed] using h
section
variable {H : Type} {enc : TypeId × Value → H} {W : World} {base : Nat} {spare : Nat → Bool} {held : Bool}
/-- one cell, of its six numbers -/
theorem open_cell {fuel : Nat} {cs : List Value} {x : DataW H × List MemPlace} (h : DataW.trod enc Tryd.prog W base spare held fuel 43 cs = some x) : ∃ e : Cl, cs = clc e ∧ okC e := by
  obtain ⟨xs, n, rfl, rfl, hl, hx, hf⟩ := DataW.trod_struct Tryd.underlying43 h
  rw [ocells31] at hl
  have hx5 : xs.length = 6 := hx
  match xs, hx5, cs, hl with
  | [y0, y1, y2, y3, y4, y5], _, [v0, v1, v2, v3, v4, v5], _ =>
    have g0 : DataW.trod enc Tryd.prog W base spare held n 3 [v0] = some y0 := by simpa [ocells3] using hf 0 _ rfl
    have g1 : DataW.trod enc Tryd.prog W base spare held n 3 [v1] = some y1 := by simpa [ocells3] using hf 1 _ rfl
    have g2 : DataW.trod enc Tryd.prog W base spare held n 2 [v2] = some y2 := by simpa [ocells2] using hf 2 _ rfl
    have g3 : DataW.trod enc Tryd.prog W base spare held n 2 [v3] = some y3 := by simpa [ocells2] using hf 3 _ rfl
    have g4 : DataW.trod enc Tryd.prog W base spare held n 2 [v4] = some y4 := by simpa [ocells2] using hf 4 _ rfl
    have g5 : DataW.trod enc Tryd.prog W base spare held n 2 [v5] = some y5 := by simpa [ocells2] using hf 5 _ rfl
    obtain ⟨n0, e0, _, w0⟩ := DataW.trod_int Tryd.underlying3 g0
    obtain ⟨n1, e1, _, w1⟩ := DataW.trod_int Tryd.underlying3 g1
    obtain ⟨n2, e2, _, w2⟩ := DataW.trod_int Tryd.underlying2 g2
    obtain ⟨n3, e3, _, w3⟩ := DataW.trod_int Tryd.underlying2 g3
    obtain ⟨n4, e4, _, w4⟩ := DataW.trod_int Tryd.underlying2 g4
    obtain ⟨n5, e5, _, w5⟩ := DataW.trod_int Tryd.underlying2 g5
    cases e0; cases e1; cases e2; cases e3; cases e4; cases e5
    exact ⟨⟨n0, n1, n2, n3, n4, n5⟩, rfl, wf_bounds w0, wf_bounds w1, wf_bounds w2, wf_bounds w3, wf_bounds w4, wf_bounds w5⟩
/-- a slice of cells, opened -/
theorem open_cells {fuel : Nat} {cs : List Value} {x : DataW H × List MemPlace} (h : DataW.trod enc Tryd.prog W base spare held fuel 22 cs = some x) (hlt : ∀ p ∈ x.2, p.block < W.heap.size) (hw : ∀ n ∈ x.1.weights Tryd.prog 22, n ≤ reachBytes) :
    ∃ a len cap l, cs = [.slice a len cap] ∧ IsC W a len cap l ∧ len * 48 ≤ 140737488355328 := by
  rcases open_slice Tryd.underlying22 h with ⟨rfl, _⟩ | ⟨a, len, cap, m, n, D, Pl, rfl, hb, hl, hm, hmm, rfl, hx⟩
  · exact ⟨none, 0, 0, [], rfl, isC_nil W, by omega⟩
  · have hlm : len ≤ m := by rw [hmm]; split <;> omega
    simp only [DataW.weights, Tryd.underlying22] at hw
    have hw1 := hw _ (List.mem_cons_self ..)
    rw [obytes31] at hw1
    simp only [List.length_map, List.length_range, reachBytes] at hw1
    have each : ∀ i, i < len → ∃ e : Cl, (∀ j, j < 6 → W.cell? (a.add (i * 6 + j)) = (clc e)[j]?) ∧ okC e := by
      intro i hi
      obtain ⟨cs', h1, h2⟩ := hx i (by omega)
      rw [ocells31] at h1
      obtain ⟨e, rfl, ho⟩ := open_cell h2
      obtain ⟨_, _, hcell⟩ := World.cells?_some h1
      refine ⟨e, fun j hj => ?_, ho⟩
      have e0 := hcell j (by omega)
      rw [oadd] at e0
      rw [e0]
    obtain ⟨f, hf⟩ := ochoose Cl0 each
    refine ⟨some a, len, cap, (List.range len).map f, rfl, ⟨by simp, hl, hm, ?_, fun i hi => ?_, by intro e; cases e⟩, by omega⟩
    · intro y hy
      obtain ⟨i, hi, rfl⟩ := List.mem_map.1 hy
      exact (hf i (List.mem_range.1 hi)).2
    · obtain ⟨b, off, spot⟩ := a
      have hc := (hf i hi).1
      have hspot : spot = none := by
        have := World.cell?_spot (show W.cell? _ = some _ from (hf 0 (by omega)).1 0 (by omega))
        simpa [Addr.add] using this
      subst hspot
      have hg : ((List.range len).map f).getD i Cl0 = f i := by simp [List.getD_eq_getElem?_getD, hi]
      rw [hg]
      refine ⟨b, off, rfl, ?_, cellAt_of fun j hj => ?_⟩
      · refine hlt (.cell b off) (List.mem_append_left _ ?_)
        exact MemPlace.mem_row.2 ⟨0, by rw [ocells31]; omega, by simp⟩
      · have := hc j hj; rw [oadd0] at this; rw [Nat.add_assoc]; exact this
end
end Go.Proofs.YtffhkljegopjmaaDoor

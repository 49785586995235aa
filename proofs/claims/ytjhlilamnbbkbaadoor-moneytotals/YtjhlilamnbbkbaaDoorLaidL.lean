/- lines that are handed in -/
import Derived.Test.YtjhlilamnbbkbaaDoorLaid
import Derived.Test.YtjhlilamnbbkbaaDoorL1
import Derived.Deep.Slices
import Derived.ChangeSame
namespace Go.Proofs.YtjhlilamnbbkbaaDoor
open Go.RowKit Go.ChangeShapes Go.WideShapes Go.Deep
theorem cells41 : Tryd.prog.cellsOf 41 = 4 := by kernel_rfl
theorem cells2 : Tryd.prog.cellsOf 2 = 1 := by kernel_rfl
theorem cells3 : Tryd.prog.cellsOf 3 = 1 := by kernel_rfl
theorem choose_ln {n : Nat} {Pr : Nat → Ln → Prop} (h : ∀ i, i < n → ∃ x, Pr i x) : ∃ f : Nat → Ln, ∀ i, i < n → Pr i (f i) :=
  ⟨fun i => if hi : i < n then Classical.choose (h i hi) else Ln0, fun i hi => by simp only [dif_pos hi]; exact Classical.choose_spec (h i hi)⟩
section
variable {H : Type} {enc : TypeId × Value → H} {W : World} {base : Nat} {spare : Nat → Bool} {held : Bool}
/-- one line, of its four cells -/
theorem open_line {fuel : Nat} {cs : List Value} {x : DataW H × List MemPlace} (h : DataW.trod enc Tryd.prog W base spare held fuel 41 cs = some x) :
    ∃ y : Ln, cs = [.int .i64 y.item, .int .i64 y.ware, .int .i64 y.qty, .int .i64 y.unit] ∧ In64 y.item ∧ In64 y.ware ∧ In64 y.qty ∧ In64 y.unit := by
  obtain ⟨xs, n, rfl, rfl, hl, hx, hf⟩ := DataW.trod_struct Tryd.underlying41 h
  rw [cells41] at hl
  have hx4 : xs.length = 4 := hx
  match xs, hx4, cs, hl with
  | [y0, y1, y2, y3], _, [v0, v1, v2, v3], _ =>
    have g0 : DataW.trod enc Tryd.prog W base spare held n 3 [v0] = some y0 := by simpa [cells3] using hf 0 _ rfl
    have g1 : DataW.trod enc Tryd.prog W base spare held n 3 [v1] = some y1 := by simpa [cells3] using hf 1 _ rfl
    have g2 : DataW.trod enc Tryd.prog W base spare held n 2 [v2] = some y2 := by simpa [cells2] using hf 2 _ rfl
    have g3 : DataW.trod enc Tryd.prog W base spare held n 2 [v3] = some y3 := by simpa [cells2] using hf 3 _ rfl
    obtain ⟨n0, e0, _, w0⟩ := DataW.trod_int Tryd.underlying3 g0
    obtain ⟨n1, e1, _, w1⟩ := DataW.trod_int Tryd.underlying3 g1
    obtain ⟨n2, e2, _, w2⟩ := DataW.trod_int Tryd.underlying2 g2
    obtain ⟨n3, e3, _, w3⟩ := DataW.trod_int Tryd.underlying2 g3
    cases e0; cases e1; cases e2; cases e3
    exact ⟨⟨n0, n1, n2, n3⟩, rfl, in64_wf w0, in64_wf w1, in64_wf w2, in64_wf w3⟩
/-- a slice of lines, opened -/
theorem open_lines {fuel : Nat} {cs : List Value} {x : DataW H × List MemPlace} (h : DataW.trod enc Tryd.prog W base spare held fuel 29 cs = some x) (hlt : ∀ p ∈ x.2, p.block < W.heap.size) :
    ∃ a len cap l, cs = [.slice a len cap] ∧ IsL W a len cap l := by
  rcases open_slice Tryd.underlying29 h with ⟨rfl, _⟩ | ⟨a, len, cap, m, n, D, Pl, rfl, hb, hl, hm, hmm, rfl, hx⟩
  · exact ⟨none, 0, 0, [], rfl, rfl, Nat.le_refl _, Nat.zero_le _, by simp, .inl ⟨rfl, fun _ => rfl⟩⟩
  · have hlm : len ≤ m := by rw [hmm]; split <;> omega
    have each : ∀ i, i < len → ∃ y : Ln, (W.cell? (a.add (i * 4)) = some (.int .i64 y.item) ∧ W.cell? (a.add (i * 4 + 1)) = some (.int .i64 y.ware) ∧ W.cell? (a.add (i * 4 + 2)) = some (.int .i64 y.qty) ∧ W.cell? (a.add (i * 4 + 3)) = some (.int .i64 y.unit)) ∧ In64 y.item ∧ In64 y.ware ∧ In64 y.qty ∧ In64 y.unit := by
      intro i hi
      obtain ⟨cs', h1, h2⟩ := hx i (by omega)
      rw [cells41] at h1
      obtain ⟨y, rfl, hy⟩ := open_line h2
      obtain ⟨_, _, hcell⟩ := World.cells?_some h1
      have e0 := hcell 0 (by omega)
      have e1 := hcell 1 (by omega)
      have e2 := hcell 2 (by omega)
      have e3 := hcell 3 (by omega)
      rw [add_add] at e0 e1 e2 e3
      exact ⟨y, ⟨by simpa using e0, by simpa using e1, by simpa using e2, by simpa using e3⟩, hy⟩
    obtain ⟨f, hf⟩ := choose_ln each
    refine ⟨some a, len, cap, (List.range len).map f, rfl, by simp, hl, hm, ?_, ?_⟩
    · intro y hy
      obtain ⟨i, hi, rfl⟩ := List.mem_map.1 hy
      exact (hf i (List.mem_range.1 hi)).2
    · by_cases h0 : len = 0
      · exact .inl ⟨h0, by intro h; cases h⟩
      · obtain ⟨b, off, spot⟩ := a
        have hspot : spot = none := by
          have := World.cell?_spot (hf 0 (by omega)).1.1
          simpa [Addr.add] using this
        subst hspot
        refine .inr ⟨b, off, rfl, ?_, fun i hi => ?_⟩
        · refine hlt (.cell b off) (List.mem_append_left _ ?_)
          exact MemPlace.mem_row.2 ⟨0, by rw [cells41]; omega, by simp⟩
        · have hg : ((List.range len).map f).getD i Ln0 = f i := by simp [List.getD_eq_getElem?_getD, hi]
          rw [hg]
          obtain ⟨c0, c1, c2, c3⟩ := (hf i hi).1
          rw [addr_add] at c0 c1 c2 c3
          exact ⟨c0, by rw [Nat.add_assoc]; exact c1, by rw [Nat.add_assoc]; exact c2, by rw [Nat.add_assoc]; exact c3⟩
end
end Go.Proofs.YtjhlilamnbbkbaaDoor

/- shipments that are handed in -/
import Derived.Test.YtdiciobdknddkaaDoorA
import Derived.Deep.Slices
import Derived.ChangeSame
import Derived.SizedLaws
namespace Go.Proofs.YtdiciobdknddkaaDoor
open Go.RowKit Go.ChangeShapes Go.WideShapes Go.Deep
theorem ocells42 : Tryd.prog.cellsOf 42 = 2 := by kernel_rfl
theorem ocells3 : Tryd.prog.cellsOf 3 = 1 := by kernel_rfl
theorem ocells22 : Tryd.prog.cellsOf 22 = 1 := by kernel_rfl
theorem obytes42 : Tryd.prog.bytesOf 42 = 16 := by kernel_rfl
theorem oadd (a : Addr) (i j : Nat) : (a.add i).add j = a.add (i + j) := by
  cases a with
  | mk b off sp => by_cases hi : i = 0 <;> by_cases hj : j = 0 <;> simp [Addr.add, hi, hj] <;> omega
theorem oadd0 (b off i : Nat) : (⟨b, off, none⟩ : Addr).add i = ⟨b, off + i, none⟩ := by
  by_cases hi : i = 0 <;> simp [Addr.add, hi]
theorem ochoose {α : Type} (d : α) {n : Nat} {Pr : Nat → α → Prop} (h : ∀ i, i < n → ∃ x, Pr i x) : ∃ f : Nat → α, ∀ i, i < n → Pr i (f i) :=
  ⟨fun i => if hi : i < n then Classical.choose (h i hi) else d, fun i hi => by simp only [dif_pos hi]; exact Classical.choose_spec (h i hi)⟩
theorem wf_bounds {n : Int} (h : (Lit.int .i64 n).wf = true) : i64B n := by
  unfold i64B
  simpa [Lit.wf, IntKind.min, IntKind.max, IntKind.bits, IntKind.signed] using h
theorem wf_bounds8 {n : Int} (h : (Lit.int .u8 n).wf = true) : u8B n := by
  unfold u8B
  simpa [Lit.wf, IntKind.min, IntKind.max, IntKind.bits, IntKind.signed] using h
section
variable {H : Type} {enc : TypeId × Value → H} {W : World} {base : Nat} {spare : Nat → Bool} {held : Bool}
/-- one shipment, of its two numbers -/
theorem open_ship {fuel : Nat} {cs : List Value} {x : DataW H × List MemPlace} (h : DataW.trod enc Tryd.prog W base spare held fuel 42 cs = some x) : ∃ e : Sh, cs = shc e ∧ okS e := by
  obtain ⟨xs, n, rfl, rfl, hl, hx, hf⟩ := DataW.trod_struct Tryd.underlying42 h
  rw [ocells42] at hl
  have hx2 : xs.length = 2 := hx
  match xs, hx2, cs, hl with
  | [y0, y1], _, [v0, v1], _ =>
    have g0 : DataW.trod enc Tryd.prog W base spare held n 3 [v0] = some y0 := by simpa [ocells3] using hf 0 _ rfl
    have g1 : DataW.trod enc Tryd.prog W base spare held n 22 [v1] = some y1 := by simpa [ocells22] using hf 1 _ rfl
    obtain ⟨n0, e0, _, w0⟩ := DataW.trod_int Tryd.underlying3 g0
    obtain ⟨n1, e1, _, w1⟩ := DataW.trod_int Tryd.underlying22 g1
    cases e0; cases e1
    exact ⟨⟨n0, n1⟩, rfl, wf_bounds w0, wf_bounds8 w1⟩
/-- a slice of shipments, opened -/
theorem open_ships {fuel : Nat} {cs : List Value} {x : DataW H × List MemPlace} (h : DataW.trod enc Tryd.prog W base spare held fuel 31 cs = some x) (hlt : ∀ p ∈ x.2, p.block < W.heap.size) (hw : ∀ n ∈ x.1.weights Tryd.prog 31, n ≤ reachBytes) :
    ∃ a len cap l, cs = [.slice a len cap] ∧ IsH W a len cap l ∧ len * 16 ≤ 140737488355328 := by
  rcases open_slice Tryd.underlying31 h with ⟨rfl, _⟩ | ⟨a, len, cap, m, n, D, Pl, rfl, hb, hl, hm, hmm, rfl, hx⟩
  · exact ⟨none, 0, 0, [], rfl, isH_nil W, by omega⟩
  · have hlm : len ≤ m := by rw [hmm]; split <;> omega
    simp only [DataW.weights, Tryd.underlying31] at hw
    have hw1 := hw _ (List.mem_cons_self ..)
    rw [obytes42] at hw1
    simp only [List.length_map, List.length_range, reachBytes] at hw1
    have each : ∀ i, i < len → ∃ e : Sh, (∀ j, j < 2 → W.cell? (a.add (i * 2 + j)) = (shc e)[j]?) ∧ okS e := by
      intro i hi
      obtain ⟨cs', h1, h2⟩ := hx i (by omega)
      rw [ocells42] at h1
      obtain ⟨e, rfl, ho⟩ := open_ship h2
      obtain ⟨_, _, hcell⟩ := World.cells?_some h1
      refine ⟨e, fun j hj => ?_, ho⟩
      have e0 := hcell j (by omega)
      rw [oadd] at e0
      rw [e0]
    obtain ⟨f, hf⟩ := ochoose Sh0 each
    refine ⟨some a, len, cap, (List.range len).map f, rfl, ⟨by simp, hl, hm, ?_, fun i hi => ?_, by intro e; cases e⟩, by omega⟩
    · intro y hy
      obtain ⟨i, hi, rfl⟩ := List.mem_map.1 hy
      exact (hf i (List.mem_range.1 hi)).2
    · obtain ⟨b, off, spot⟩ := a
      have hc := (hf i hi).1
      have hspot : spot = none := by
        have := World.cell?_spot (show W.cell? _ = some _ from (hf 0 (by omega)).1 0 (by omega))
        simpa [Addr.add] using this
      subst hspot
      have hg : ((List.range len).map f).getD i Sh0 = f i := by simp [List.getD_eq_getElem?_getD, hi]
      rw [hg]
      refine ⟨b, off, rfl, ?_, shAt_of fun j hj => ?_⟩
      · refine hlt (.cell b off) (List.mem_append_left _ ?_)
        exact MemPlace.mem_row.2 ⟨0, by rw [ocells42]; omega, by simp⟩
      · have := hc j hj; rw [oadd0] at this; rw [Nat.add_assoc]; exact this
end
end Go.Proofs.YtdiciobdknddkaaDoor

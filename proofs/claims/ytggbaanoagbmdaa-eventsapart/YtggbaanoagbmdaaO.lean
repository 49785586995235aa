/- events and texts that are handed in -/
import Derived.Test.YtggbaanoagbmdaaA
import Derived.Deep.Slices
import Derived.ChangeSame
import Derived.SizedLaws
import Derived.SliceStrings
namespace Go.Proofs.Ytggbaanoagbmdaa
open Go.RowKit Go.ChangeShapes Go.WideShapes Go.Deep
theorem ocells41 : Try.prog.cellsOf 41 = 5 := by kernel_rfl
theorem ocells9 : Try.prog.cellsOf 9 = 1 := by kernel_rfl
theorem ocells3 : Try.prog.cellsOf 3 = 1 := by kernel_rfl
theorem obytes41 : Try.prog.bytesOf 41 = 64 := by kernel_rfl
theorem obytes9 : Try.prog.bytesOf 9 = 16 := by kernel_rfl
theorem oadd (a : Addr) (i j : Nat) : (a.add i).add j = a.add (i + j) := by
  cases a with
  | mk b off sp => by_cases hi : i = 0 <;> by_cases hj : j = 0 <;> simp [Addr.add, hi, hj] <;> omega
theorem oadd0 (b off i : Nat) : (⟨b, off, none⟩ : Addr).add i = ⟨b, off + i, none⟩ := by
  by_cases hi : i = 0 <;> simp [Addr.add, hi]
theorem ochoose {α : Type} (d : α) {n : Nat} {Pr : Nat → α → Prop} (h : ∀ i, i < n → ∃ x, Pr i x) : ∃ f : Nat → α, ∀ i, i < n → Pr i (f i) :=
  ⟨fun i => if hi : i < n then Classical.choose (h i hi) else d, fun i hi => by simp only [dif_pos hi]; exact Classical.choose_spec (h i hi)⟩
theorem wf_bounds {n : Int} (h : (Lit.int .i64 n).wf = true) : -9223372036854775808 ≤ n ∧ n ≤ 9223372036854775807 := by
  simpa [Lit.wf, IntKind.min, IntKind.max, IntKind.bits, IntKind.signed] using h
section
variable {H : Type} {enc : TypeId × Value → H} {W : World} {base : Nat} {spare : Nat → Bool} {held : Bool}
/-- one event, of its five cells -/
theorem open_ev {fuel : Nat} {cs : List Value} {x : DataW H × List MemPlace} (h : DataW.trod enc Try.prog W base spare held fuel 41 cs = some x) : ∃ e : Ev, cs = evc e ∧ okE e := by
  obtain ⟨xs, n, rfl, rfl, hl, hx, hf⟩ := DataW.trod_struct Try.underlying41 h
  rw [ocells41] at hl
  have hx5 : xs.length = 5 := hx
  match xs, hx5, cs, hl with
  | [y0, y1, y2, y3, y4], _, [v0, v1, v2, v3, v4], _ =>
    have g0 : DataW.trod enc Try.prog W base spare held n 9 [v0] = some y0 := by simpa [ocells9] using hf 0 _ rfl
    have g1 : DataW.trod enc Try.prog W base spare held n 3 [v1] = some y1 := by simpa [ocells3] using hf 1 _ rfl
    have g2 : DataW.trod enc Try.prog W base spare held n 3 [v2] = some y2 := by simpa [ocells3] using hf 2 _ rfl
    have g3 : DataW.trod enc Try.prog W base spare held n 9 [v3] = some y3 := by simpa [ocells9] using hf 3 _ rfl
    have g4 : DataW.trod enc Try.prog W base spare held n 9 [v4] = some y4 := by simpa [ocells9] using hf 4 _ rfl
    obtain ⟨s0, e0, _, w0⟩ := DataW.trod_string Try.underlying9 g0
    obtain ⟨n1, e1, _, w1⟩ := DataW.trod_int Try.underlying3 g1
    obtain ⟨n2, e2, _, w2⟩ := DataW.trod_int Try.underlying3 g2
    obtain ⟨s3, e3, _, w3⟩ := DataW.trod_string Try.underlying9 g3
    obtain ⟨s4, e4, _, w4⟩ := DataW.trod_string Try.underlying9 g4
    cases e0; cases e1; cases e2; cases e3; cases e4
    exact ⟨⟨s0, n1, n2, s3, s4⟩, rfl, w0, w3, w4, wf_bounds w1, wf_bounds w2⟩
/-- a slice of events, opened -/
theorem open_evs {fuel : Nat} {cs : List Value} {x : DataW H × List MemPlace} (h : DataW.trod enc Try.prog W base spare held fuel 22 cs = some x) (hlt : ∀ p ∈ x.2, p.block < W.heap.size) (hw : ∀ n ∈ x.1.weights Try.prog 22, n ≤ reachBytes) :
    ∃ a len cap l, cs = [.slice a len cap] ∧ IsE W a len cap l ∧ len * 64 ≤ 140737488355328 := by
  rcases open_slice Try.underlying22 h with ⟨rfl, _⟩ | ⟨a, len, cap, m, n, D, Pl, rfl, hb, hl, hm, hmm, rfl, hx⟩
  · exact ⟨none, 0, 0, [], rfl, isE_nil W, by omega⟩
  · have hlm : len ≤ m := by rw [hmm]; split <;> omega
    simp only [DataW.weights, Try.underlying22] at hw
    have hw1 := hw _ (List.mem_cons_self ..)
    rw [obytes41] at hw1
    simp only [List.length_map, List.length_range, reachBytes] at hw1
    have each : ∀ i, i < len → ∃ e : Ev, (∀ j, j < 5 → W.cell? (a.add (i * 5 + j)) = (evc e)[j]?) ∧ okE e := by
      intro i hi
      obtain ⟨cs', h1, h2⟩ := hx i (by omega)
      rw [ocells41] at h1
      obtain ⟨e, rfl, ho⟩ := open_ev h2
      obtain ⟨_, _, hcell⟩ := World.cells?_some h1
      refine ⟨e, fun j hj => ?_, ho⟩
      have e0 := hcell j (by omega)
      rw [oadd] at e0
      rw [e0]
    obtain ⟨f, hf⟩ := ochoose Ev0 each
    refine ⟨some a, len, cap, (List.range len).map f, rfl, ⟨by simp, hl, hm, ?_, fun i hi => ?_⟩, by omega⟩
    · intro y hy
      obtain ⟨i, hi, rfl⟩ := List.mem_map.1 hy
      exact (hf i (List.mem_range.1 hi)).2
    · obtain ⟨b, off, spot⟩ := a
      have hc := (hf i hi).1
      have hspot : spot = none := by
        have := World.cell?_spot (show W.cell? _ = some _ from (hf 0 (by omega)).1 0 (by omega))
        simpa [Addr.add] using this
      subst hspot
      have hg : ((List.range len).map f).getD i Ev0 = f i := by simp [List.getD_eq_getElem?_getD, hi]
      rw [hg]
      refine ⟨b, off, rfl, ?_, ?_, ?_, ?_, ?_, ?_⟩
      · refine hlt (.cell b off) (List.mem_append_left _ ?_)
        exact MemPlace.mem_row.2 ⟨0, by rw [ocells41]; omega, by simp⟩
      · have := hc 0 (by omega); rw [oadd0] at this; exact this
      · have := hc 1 (by omega); rw [oadd0] at this; rw [Nat.add_assoc]; exact this
      · have := hc 2 (by omega); rw [oadd0] at this; rw [Nat.add_assoc]; exact this
      · have := hc 3 (by omega); rw [oadd0] at this; rw [Nat.add_assoc]; exact this
      · have := hc 4 (by omega); rw [oadd0] at this; rw [Nat.add_assoc]; exact this
/-- a slice of texts, opened -/
theorem open_txt {fuel : Nat} {cs : List Value} {x : DataW H × List MemPlace} (h : DataW.trod enc Try.prog W base (fun _ => true) held fuel 23 cs = some x) (hlt : ∀ p ∈ x.2, p.block < W.heap.size) (hw : ∀ n ∈ x.1.weights Try.prog 23, n ≤ reachBytes) :
    ∃ a len cap l, cs = [.slice a len cap] ∧ IsT W a len cap l ∧ len ≤ 140737488355328 ∧ (cap = 0 ∨ ∃ b off, a = some ⟨b, off, none⟩) := by
  rcases open_strings Try.underlying23 Try.underlying9 ocells9 h with ⟨rfl, _⟩ | ⟨a, len, cap, ss, rfl, hb, hl, hm, hss, rfl, hcell, hsz⟩
  · exact ⟨none, 0, 0, [], rfl, isT_nil W, by omega, .inl rfl⟩
  · simp only [if_true] at hss
    simp only [DataW.weights, Try.underlying23] at hw
    have hw1 := hw _ (List.mem_cons_self ..)
    rw [obytes9] at hw1
    simp only [strs, List.length_map, List.length_take, List.length_drop, reachBytes] at hw1
    have hspot : cap = 0 ∨ a.spot = none := by
      by_cases h0 : cap = 0
      · exact .inl h0
      · obtain ⟨b, off, spot⟩ := a
        have := World.cell?_spot (hcell 0 (by omega))
        exact .inr (by simpa [Addr.add] using this)
    refine ⟨some a, len, cap, ss.take len, rfl, ⟨by simp; omega, hl, hm, fun y hy => hsz y (List.mem_of_mem_take hy), fun i hi => ?_⟩, by omega, ?_⟩
    · obtain ⟨b, off, spot⟩ := a
      obtain rfl : spot = none := by
        rcases hspot with h | h
        · omega
        · exact h
      refine ⟨b, off, rfl, ?_, ?_⟩
      · exact hlt (.cell b off) (MemPlace.mem_row.2 ⟨0, by omega, by simp⟩)
      · have := hcell i (by omega)
        rw [oadd0] at this
        rw [this, List.getD_eq_getElem?_getD, List.getD_eq_getElem?_getD, List.getElem?_take, if_pos hi]
        rfl
    · obtain ⟨b, off, spot⟩ := a
      rcases hspot with h | h
      · exact .inl h
      · obtain rfl : spot = none := h
        exact .inr ⟨b, off, rfl⟩
end
end Go.Proofs.Ytggbaanoagbmdaa

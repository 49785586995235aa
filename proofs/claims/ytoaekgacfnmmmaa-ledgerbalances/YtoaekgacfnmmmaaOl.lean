/- books that are handed in -/
import Derived.Test.YtoaekgacfnmmmaaO
import Derived.Deep.Slices
import Derived.ChangeSame
import Derived.SizedLaws
namespace Go.Proofs.Ytoaekgacfnmmmaa
open Go.RowKit Go.ChangeShapes Go.WideShapes Go.Deep
theorem ocells30 : Try.prog.cellsOf 30 = 4 := by kernel_rfl
theorem ocells61 : Try.prog.cellsOf 61 = 4 := by kernel_rfl
theorem ocells25 : Try.prog.cellsOf 25 = 2 := by kernel_rfl
theorem ocells22 : Try.prog.cellsOf 22 = 1 := by kernel_rfl
theorem ocells23 : Try.prog.cellsOf 23 = 1 := by kernel_rfl
theorem ocells2 : Try.prog.cellsOf 2 = 1 := by kernel_rfl
theorem ocells3 : Try.prog.cellsOf 3 = 1 := by kernel_rfl
theorem ocells42 : Try.prog.cellsOf 42 = 1 := by kernel_rfl
theorem oadd (a : Addr) (i j : Nat) : (a.add i).add j = a.add (i + j) := by
  cases a with
  | mk b off sp => by_cases hi : i = 0 <;> by_cases hj : j = 0 <;> simp [Addr.add, hi, hj] <;> omega
theorem oadd0 (b off i : Nat) : (⟨b, off, none⟩ : Addr).add i = ⟨b, off + i, none⟩ := by
  by_cases hi : i = 0 <;> simp [Addr.add, hi]
theorem ochoose {α : Type} (d : α) {n : Nat} {Pr : Nat → α → Prop} (h : ∀ i, i < n → ∃ x, Pr i x) : ∃ f : Nat → α, ∀ i, i < n → Pr i (f i) :=
  ⟨fun i => if hi : i < n then Classical.choose (h i hi) else d, fun i hi => by simp only [dif_pos hi]; exact Classical.choose_spec (h i hi)⟩
theorem wf_bounds {n : Int} (h : (Lit.int .i64 n).wf = true) : i64B n := by
  unfold i64B
  simpa [Lit.wf, IntKind.min, IntKind.max, IntKind.bits, IntKind.signed] using h
theorem wf_bounds8 {n : Int} (h : (Lit.int .u8 n).wf = true) : 0 ≤ n ∧ n ≤ 255 := by
  simpa [Lit.wf, IntKind.min, IntKind.max, IntKind.bits, IntKind.signed] using h
section
variable {H : Type} {enc : TypeId × Value → H} {W : World} {base : Nat} {spare : Nat → Bool} {held : Bool}
theorem open_pay {fuel : Nat} {cs : List Value} {x : DataW H × List MemPlace} (h : DataW.trod enc Try.prog W base spare held fuel 30 cs = some x) : ∃ e : Py, cs = pyc e ∧ okP e := by
  obtain ⟨xs, n, rfl, rfl, hl, hx, hf⟩ := DataW.trod_struct Try.underlying30 h
  rw [ocells30] at hl
  have hx4 : xs.length = 4 := hx
  match xs, hx4, cs, hl with
  | [y0, y1, y2, y3], _, [v0, v1, v2, v3], _ =>
    have g0 : DataW.trod enc Try.prog W base spare held n 3 [v0] = some y0 := by simpa [ocells3] using hf 0 _ rfl
    have g1 : DataW.trod enc Try.prog W base spare held n 2 [v1] = some y1 := by simpa [ocells2] using hf 1 _ rfl
    have g2 : DataW.trod enc Try.prog W base spare held n 2 [v2] = some y2 := by simpa [ocells2] using hf 2 _ rfl
    have g3 : DataW.trod enc Try.prog W base spare held n 2 [v3] = some y3 := by simpa [ocells2] using hf 3 _ rfl
    obtain ⟨n0, e0, _, w0⟩ := DataW.trod_int Try.underlying3 g0
    obtain ⟨n1, e1, _, w1⟩ := DataW.trod_int Try.underlying2 g1
    obtain ⟨n2, e2, _, w2⟩ := DataW.trod_int Try.underlying2 g2
    obtain ⟨n3, e3, _, w3⟩ := DataW.trod_int Try.underlying2 g3
    cases e0; cases e1; cases e2; cases e3
    exact ⟨⟨n0, n1, n2, n3⟩, rfl, wf_bounds w0, wf_bounds w1, wf_bounds w2, wf_bounds w3⟩
theorem open_post {fuel : Nat} {cs : List Value} {x : DataW H × List MemPlace} (h : DataW.trod enc Try.prog W base spare held fuel 61 cs = some x) : ∃ e : Pg, cs = pgc e ∧ okG e := by
  obtain ⟨xs, n, rfl, rfl, hl, hx, hf⟩ := DataW.trod_struct Try.underlying61 h
  rw [ocells61] at hl
  have hx4 : xs.length = 4 := hx
  match xs, hx4, cs, hl with
  | [y0, y1, y2, y3], _, [v0, v1, v2, v3], _ =>
    have g0 : DataW.trod enc Try.prog W base spare held n 3 [v0] = some y0 := by simpa [ocells3] using hf 0 _ rfl
    have g1 : DataW.trod enc Try.prog W base spare held n 42 [v1] = some y1 := by simpa [ocells42] using hf 1 _ rfl
    have g2 : DataW.trod enc Try.prog W base spare held n 42 [v2] = some y2 := by simpa [ocells42] using hf 2 _ rfl
    have g3 : DataW.trod enc Try.prog W base spare held n 2 [v3] = some y3 := by simpa [ocells2] using hf 3 _ rfl
    obtain ⟨n0, e0, _, w0⟩ := DataW.trod_int Try.underlying3 g0
    obtain ⟨n1, e1, _, w1⟩ := DataW.trod_int Try.underlying42 g1
    obtain ⟨n2, e2, _, w2⟩ := DataW.trod_int Try.underlying42 g2
    obtain ⟨n3, e3, _, w3⟩ := DataW.trod_int Try.underlying2 g3
    cases e0; cases e1; cases e2; cases e3
    exact ⟨⟨n0, n1, n2, n3⟩, rfl, wf_bounds w0, wf_bounds8 w1, wf_bounds8 w2, wf_bounds w3⟩
theorem open_pays {fuel : Nat} {cs : List Value} {x : DataW H × List MemPlace} (h : DataW.trod enc Try.prog W base spare held fuel 22 cs = some x) (hlt : ∀ p ∈ x.2, p.block < W.heap.size) :
    ∃ a len cap l, cs = [.slice a len cap] ∧ IsP W a len cap l := by
  rcases open_slice Try.underlying22 h with ⟨rfl, _⟩ | ⟨a, len, cap, m, n, D, Pl, rfl, hb, hl, hm, hmm, rfl, hx⟩
  · exact ⟨none, 0, 0, [], rfl, isP_nil W⟩
  · have hlm : len ≤ m := by rw [hmm]; split <;> omega
    have each : ∀ i, i < len → ∃ e : Py, (∀ j, j < 4 → W.cell? (a.add (i * 4 + j)) = (pyc e)[j]?) ∧ okP e := by
      intro i hi
      obtain ⟨cs', h1, h2⟩ := hx i (by omega)
      rw [ocells30] at h1
      obtain ⟨e, rfl, ho⟩ := open_pay h2
      obtain ⟨_, _, hcell⟩ := World.cells?_some h1
      refine ⟨e, fun j hj => ?_, ho⟩
      have e0 := hcell j (by omega)
      rw [oadd] at e0
      rw [e0]
    obtain ⟨f, hf⟩ := ochoose Py0 each
    refine ⟨some a, len, cap, (List.range len).map f, rfl, ⟨by simp, hl, hm, ?_, fun i hi => ?_, by intro e; cases e⟩⟩
    · intro y hy
      obtain ⟨i, hi, rfl⟩ := List.mem_map.1 hy
      exact (hf i (List.mem_range.1 hi)).2
    · obtain ⟨b, off, spot⟩ := a
      have hc := (hf i hi).1
      have hspot : spot = none := by
        have := World.cell?_spot (show W.cell? _ = some _ from (hf 0 (by omega)).1 0 (by omega))
        simpa [Addr.add] using this
      subst hspot
      have hg : ((List.range len).map f).getD i Py0 = f i := by simp [List.getD_eq_getElem?_getD, hi]
      rw [hg]
      refine ⟨b, off, rfl, ?_, ofPayAt fun j hj => ?_⟩
      · refine hlt (.cell b off) (List.mem_append_left _ ?_)
        exact MemPlace.mem_row.2 ⟨0, by rw [ocells30]; omega, by simp⟩
      · have := hc j hj; rw [oadd0] at this; rw [Nat.add_assoc]; exact this
theorem open_posts {fuel : Nat} {cs : List Value} {x : DataW H × List MemPlace} (h : DataW.trod enc Try.prog W base spare held fuel 23 cs = some x) (hlt : ∀ p ∈ x.2, p.block < W.heap.size) :
    ∃ a len cap l, cs = [.slice a len cap] ∧ IsG W a len cap l := by
  rcases open_slice Try.underlying23 h with ⟨rfl, _⟩ | ⟨a, len, cap, m, n, D, Pl, rfl, hb, hl, hm, hmm, rfl, hx⟩
  · exact ⟨none, 0, 0, [], rfl, isG_nil W⟩
  · have hlm : len ≤ m := by rw [hmm]; split <;> omega
    have each : ∀ i, i < len → ∃ e : Pg, (∀ j, j < 4 → W.cell? (a.add (i * 4 + j)) = (pgc e)[j]?) ∧ okG e := by
      intro i hi
      obtain ⟨cs', h1, h2⟩ := hx i (by omega)
      rw [ocells61] at h1
      obtain ⟨e, rfl, ho⟩ := open_post h2
      obtain ⟨_, _, hcell⟩ := World.cells?_some h1
      refine ⟨e, fun j hj => ?_, ho⟩
      have e0 := hcell j (by omega)
      rw [oadd] at e0
      rw [e0]
    obtain ⟨f, hf⟩ := ochoose Pg0 each
    refine ⟨some a, len, cap, (List.range len).map f, rfl, ⟨by simp, hl, hm, ?_, fun i hi => ?_, by intro e; cases e⟩⟩
    · intro y hy
      obtain ⟨i, hi, rfl⟩ := List.mem_map.1 hy
      exact (hf i (List.mem_range.1 hi)).2
    · obtain ⟨b, off, spot⟩ := a
      have hc := (hf i hi).1
      have hspot : spot = none := by
        have := World.cell?_spot (show W.cell? _ = some _ from (hf 0 (by omega)).1 0 (by omega))
        simpa [Addr.add] using this
      subst hspot
      have hg : ((List.range len).map f).getD i Pg0 = f i := by simp [List.getD_eq_getElem?_getD, hi]
      rw [hg]
      refine ⟨b, off, rfl, ?_, ofPostAt fun j hj => ?_⟩
      · refine hlt (.cell b off) (List.mem_append_left _ ?_)
        exact MemPlace.mem_row.2 ⟨0, by rw [ocells61]; omega, by simp⟩
      · have := hc j hj; rw [oadd0] at this; rw [Nat.add_assoc]; exact this
/-- books, of their two slices -/
theorem open_books {fuel : Nat} {cs : List Value} {x : DataW H × List MemPlace} (h : DataW.trod enc Try.prog W base spare held fuel 25 cs = some x) (hlt : ∀ p ∈ x.2, p.block < W.heap.size) :
    ∃ a len cap P a2 len2 cap2 G, cs = [.slice a len cap, .slice a2 len2 cap2] ∧ IsP W a len cap P ∧ IsG W a2 len2 cap2 G := by
  obtain ⟨xs, n, rfl, rfl, hl, hx, hf⟩ := DataW.trod_struct Try.underlying25 h
  rw [ocells25] at hl
  have hx2 : xs.length = 2 := hx
  match xs, hx2, cs, hl with
  | [y0, y1], _, [v0, v1], _ =>
    have g0 : DataW.trod enc Try.prog W base spare held n 22 [v0] = some y0 := by simpa [ocells22] using hf 0 _ rfl
    have g1 : DataW.trod enc Try.prog W base spare held n 23 [v1] = some y1 := by simpa [ocells22, ocells23] using hf 1 _ rfl
    obtain ⟨a, len, cap, P, e0, i0⟩ := open_pays g0 (fun p hp => hlt p (by simp; exact .inl hp))
    obtain ⟨a2, len2, cap2, G, e1, i1⟩ := open_posts g1 (fun p hp => hlt p (by simp; exact .inr hp))
    cases e0; cases e1
    exact ⟨a, len, cap, P, a2, len2, cap2, G, rfl, i0, i1⟩
end
end Go.Proofs.Ytoaekgacfnmmmaa

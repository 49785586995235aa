/- lines that are handed in, and parts of them -/
import Derived.Test.YtffhkljegopjmaaDoorKO
import Derived.Test.YtffhkljegopjmaaDoorKT
namespace Go.Proofs.YtffhkljegopjmaaDoor
open Go.RowKit Go.ChangeShapes Go.WideShapes Go.Deep
set_option maxRecDepth 40000
theorem ocells41 : Tryd.prog.cellsOf 41 = 4 := by kernel_rfl
theorem obytes41 : Tryd.prog.bytesOf 41 = 32 := by kernel_rfl
abbrev lnc (x : Ln) : List Value := [.int .i64 x.it, .int .i64 x.wa, .int .i64 x.q, .int .i64 x.un]
theorem lineAt_of {w : World} {b o : Nat} {x : Ln} (h : ∀ j, j < 4 → w.cell? ⟨b, o + j, none⟩ = (lnc x)[j]?) : LineAt w b o x := by
  refine ⟨?_, ?_, ?_, ?_⟩
  · simpa using h 0 (by omega)
  · simpa using h 1 (by omega)
  · simpa using h 2 (by omega)
  · simpa using h 3 (by omega)
section
variable {H : Type} {enc : TypeId × Value → H} {W : World} {base : Nat} {spare : Nat → Bool} {held : Bool}
theorem open_line {fuel : Nat} {cs : List Value} {x : DataW H × List MemPlace} (h : DataW.trod enc Tryd.prog W base spare held fuel 41 cs = some x) : ∃ e : Ln, cs = lnc e := by
  obtain ⟨xs, n, rfl, rfl, hl, hx, hf⟩ := DataW.trod_struct Tryd.underlying41 h
  rw [ocells41] at hl
  have hx5 : xs.length = 4 := hx
  match xs, hx5, cs, hl with
  | [y0, y1, y2, y3], _, [v0, v1, v2, v3], _ =>
    have g0 : DataW.trod enc Tryd.prog W base spare held n 3 [v0] = some y0 := by simpa [ocells3] using hf 0 _ rfl
    have g1 : DataW.trod enc Tryd.prog W base spare held n 3 [v1] = some y1 := by simpa [ocells3] using hf 1 _ rfl
    have g2 : DataW.trod enc Tryd.prog W base spare held n 2 [v2] = some y2 := by simpa [ocells2] using hf 2 _ rfl
    have g3 : DataW.trod enc Tryd.prog W base spare held n 2 [v3] = some y3 := by simpa [ocells2] using hf 3 _ rfl
    obtain ⟨n0, e0, _, w0⟩ := DataW.trod_int Tryd.underlying3 g0
    obtain ⟨n1, e1, _, w1⟩ := DataW.trod_int Tryd.underlying3 g1
    obtain ⟨n2, e2, _, w2⟩ := DataW.trod_int Tryd.underlying2 g2
    obtain ⟨n3, e3, _, w3⟩ := DataW.trod_int Tryd.underlying2 g3
    cases e0; cases e1; cases e2; cases e3
    exact ⟨⟨n0, n1, n2, n3⟩, rfl⟩
theorem open_lines {fuel : Nat} {cs : List Value} {x : DataW H × List MemPlace} (h : DataW.trod enc Tryd.prog W base spare held fuel 23 cs = some x) (hlt : ∀ p ∈ x.2, p.block < W.heap.size) (hw : ∀ n ∈ x.1.weights Tryd.prog 23, n ≤ reachBytes) :
    ∃ a len cap l, cs = [.slice a len cap] ∧ IsL W a len cap l ∧ len * 32 ≤ 140737488355328 := by
  rcases open_slice Tryd.underlying23 h with ⟨rfl, _⟩ | ⟨a, len, cap, m, n, D, Pl, rfl, hb, hl, hm, hmm, rfl, hx⟩
  · exact ⟨none, 0, 0, [], rfl, isL_nil W, by omega⟩
  · have hlm : len ≤ m := by rw [hmm]; split <;> omega
    simp only [DataW.weights, Tryd.underlying23] at hw
    have hw1 := hw _ (List.mem_cons_self ..)
    rw [obytes41] at hw1
    simp only [List.length_map, List.length_range, reachBytes] at hw1
    have each : ∀ i, i < len → ∃ e : Ln, (∀ j, j < 4 → W.cell? (a.add (i * 4 + j)) = (lnc e)[j]?) := by
      intro i hi
      obtain ⟨cs', h1, h2⟩ := hx i (by omega)
      rw [ocells41] at h1
      obtain ⟨e, rfl⟩ := open_line h2
      obtain ⟨_, _, hcell⟩ := World.cells?_some h1
      refine ⟨e, fun j hj => ?_⟩
      have e0 := hcell j (by omega)
      rw [oadd] at e0
      rw [e0]
    obtain ⟨f, hf⟩ := ochoose Ln0 each
    refine ⟨some a, len, cap, (List.range len).map f, rfl, ⟨by simp, hl, hm, fun i hi => ?_, by intro e; cases e⟩, by omega⟩
    obtain ⟨b, off, spot⟩ := a
    have hc := hf i hi
    have hspot : spot = none := by
      have := World.cell?_spot (show W.cell? _ = some _ from hf 0 (by omega) 0 (by omega))
      simpa [Addr.add] using this
    subst hspot
    have hg : ((List.range len).map f).getD i Ln0 = f i := by simp [List.getD_eq_getElem?_getD, hi]
    rw [hg]
    refine ⟨b, off, rfl, ?_, lineAt_of fun j hj => ?_⟩
    · refine hlt (.cell b off) (List.mem_append_left _ ?_)
      exact MemPlace.mem_row.2 ⟨0, by rw [ocells41]; omega, by simp⟩
    · have := hc j hj; rw [oadd0] at this; rw [Nat.add_assoc]; exact this
end
theorem isL_take {w : World} {a : Option Addr} {len cap : Nat} {l : List Ln} (h : IsL w a len cap l) {k : Nat} (hk : k ≤ len) : IsL w a k cap (l.take k) := by
  refine ⟨by rw [List.length_take, h.1]; omega, by have := h.2.1; omega, h.2.2.1, fun i hi => ?_, h.2.2.2.2⟩
  obtain ⟨b, off, e, hlt, hc⟩ := h.2.2.2.1 i (by omega)
  refine ⟨b, off, e, hlt, ?_⟩
  rwa [List.getD_eq_getElem?_getD, List.getElem?_take, if_pos hi, ← List.getD_eq_getElem?_getD]
theorem isL_drop {w : World} {ad : Addr} {len cap : Nat} {l : List Ln} (h : IsL w (some ad) len cap l) {k : Nat} (hk : k ≤ len) : IsL w (some (ad.add (k * 4))) (len - k) (cap - k) (l.drop k) := by
  refine ⟨by rw [List.length_drop, h.1], by have := h.2.1; omega, by have := h.2.2.1; unfold maxLen at *; omega, fun i hi => ?_, by intro e; cases e⟩
  obtain ⟨b, off, e, hlt, hc⟩ := h.2.2.2.1 (k + i) (by omega)
  cases e
  refine ⟨b, off + k * 4, by rw [oadd0], hlt, ?_⟩
  rw [List.getD_eq_getElem?_getD, List.getElem?_drop, ← List.getD_eq_getElem?_getD, show off + k * 4 + i * 4 = off + (k + i) * 4 by omega]
  exact hc
theorem isL_none {w : World} {ad : Addr} {len cap : Nat} {l : List Ln} (h : IsL w (some ad) len cap l) {k : Nat} (hk : len ≤ k) : IsL w (some ad) 0 0 (l.drop k) := by
  rw [show l.drop k = [] from List.drop_eq_nil_of_le (by rw [h.1]; omega)]
  exact ⟨rfl, Nat.zero_le _, Nat.zero_le _, fun i hi => by omega, by intro e; cases e⟩
end Go.Proofs.YtffhkljegopjmaaDoor

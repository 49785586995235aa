/- versions and writes that are handed in -/
import Derived.Test.YtpgdmkjfgmiacaaXd
import Derived.Deep.Slices
import Derived.ChangeSame
import Derived.SizedLaws
namespace Go.Proofs.Ytpgdmkjfgmiacaa
open Go.RowKit Go.ChangeShapes Go.WideShapes Go.Deep
set_option maxRecDepth 40000
theorem ocells51 : Try.prog.cellsOf 51 = 4 := by kernel_rfl
theorem ocells46 : Try.prog.cellsOf 46 = 3 := by kernel_rfl
theorem ocells25 : Try.prog.cellsOf 25 = 2 := by kernel_rfl
theorem ocells22 : Try.prog.cellsOf 22 = 1 := by kernel_rfl
theorem ocells23 : Try.prog.cellsOf 23 = 1 := by kernel_rfl
theorem ocells9 : Try.prog.cellsOf 9 = 1 := by kernel_rfl
theorem ocells4 : Try.prog.cellsOf 4 = 1 := by kernel_rfl
theorem obytes51 : Try.prog.bytesOf 51 = 48 := by kernel_rfl
theorem obytes46 : Try.prog.bytesOf 46 = 40 := by kernel_rfl
theorem oadd (a : Addr) (i j : Nat) : (a.add i).add j = a.add (i + j) := by
  cases a with
  | mk b off sp => by_cases hi : i = 0 <;> by_cases hj : j = 0 <;> simp [Addr.add, hi, hj] <;> omega
theorem oadd0 (b off i : Nat) : (⟨b, off, none⟩ : Addr).add i = ⟨b, off + i, none⟩ := by
  by_cases hi : i = 0 <;> simp [Addr.add, hi]
theorem ochoose {α : Type} (d : α) {n : Nat} {Pr : Nat → α → Prop} (h : ∀ i, i < n → ∃ x, Pr i x) : ∃ f : Nat → α, ∀ i, i < n → Pr i (f i) :=
  ⟨fun i => if hi : i < n then Classical.choose (h i hi) else d, fun i hi => by simp only [dif_pos hi]; exact Classical.choose_spec (h i hi)⟩
theorem wf_u64 {n : Int} (h : (Lit.int .u64 n).wf = true) : 0 ≤ n ∧ n ≤ 18446744073709551615 := by
  simpa [Lit.wf, IntKind.min, IntKind.max, IntKind.bits, IntKind.signed] using h
section
variable {H : Type} {enc : TypeId × Value → H} {W : World} {base : Nat} {spare : Nat → Bool} {held : Bool}
/-- one version, of its four cells -/
theorem open_ver {fuel : Nat} {cs : List Value} {x : DataW H × List MemPlace} (h : DataW.trod enc Try.prog W base spare held fuel 51 cs = some x) : ∃ e : Vr, cs = vrc e := by
  obtain ⟨xs, n, rfl, rfl, hl, hx, hf⟩ := DataW.trod_struct Try.underlying51 h
  rw [ocells51] at hl
  have hx4 : xs.length = 4 := hx
  match xs, hx4, cs, hl with
  | [y0, y1, y2, y3], _, [v0, v1, v2, v3], _ =>
    have g0 : DataW.trod enc Try.prog W base spare held n 9 [v0] = some y0 := by simpa [ocells9] using hf 0 _ rfl
    have g1 : DataW.trod enc Try.prog W base spare held n 23 [v1] = some y1 := by simpa [ocells9, ocells23] using hf 1 _ rfl
    have g2 : DataW.trod enc Try.prog W base spare held n 9 [v2] = some y2 := by simpa [ocells9, ocells23] using hf 2 _ rfl
    have g3 : DataW.trod enc Try.prog W base spare held n 4 [v3] = some y3 := by simpa [ocells9, ocells23, ocells4] using hf 3 _ rfl
    obtain ⟨s0, e0, _, w0⟩ := DataW.trod_string Try.underlying9 g0
    obtain ⟨n1, e1, _, w1⟩ := DataW.trod_int Try.underlying23 g1
    obtain ⟨s2, e2, _, w2⟩ := DataW.trod_string Try.underlying9 g2
    obtain ⟨b3, e3, _⟩ := DataW.trod_bool Try.underlying4 g3
    cases e0; cases e1; cases e2; cases e3
    obtain ⟨m, rfl⟩ := Int.eq_ofNat_of_zero_le (wf_u64 w1).1
    exact ⟨⟨s0, m, s2, b3⟩, rfl⟩
theorem open_wr {fuel : Nat} {cs : List Value} {x : DataW H × List MemPlace} (h : DataW.trod enc Try.prog W base spare held fuel 46 cs = some x) : ∃ e : Wt, cs = wtc e := by
  obtain ⟨xs, n, rfl, rfl, hl, hx, hf⟩ := DataW.trod_struct Try.underlying46 h
  rw [ocells46] at hl
  have hx3 : xs.length = 3 := hx
  match xs, hx3, cs, hl with
  | [y0, y1, y2], _, [v0, v1, v2], _ =>
    have g0 : DataW.trod enc Try.prog W base spare held n 9 [v0] = some y0 := by simpa [ocells9] using hf 0 _ rfl
    have g1 : DataW.trod enc Try.prog W base spare held n 9 [v1] = some y1 := by simpa [ocells9] using hf 1 _ rfl
    have g2 : DataW.trod enc Try.prog W base spare held n 4 [v2] = some y2 := by simpa [ocells9, ocells4] using hf 2 _ rfl
    obtain ⟨s0, e0, _, w0⟩ := DataW.trod_string Try.underlying9 g0
    obtain ⟨s1, e1, _, w1⟩ := DataW.trod_string Try.underlying9 g1
    obtain ⟨b2, e2, _⟩ := DataW.trod_bool Try.underlying4 g2
    cases e0; cases e1; cases e2
    exact ⟨⟨s0, s1, b2⟩, rfl⟩
/-- a slice of versions, opened -/
theorem open_vers {fuel : Nat} {cs : List Value} {x : DataW H × List MemPlace} (h : DataW.trod enc Try.prog W base spare held fuel 22 cs = some x) (hlt : ∀ p ∈ x.2, p.block < W.heap.size) :
    ∃ a len cap l, cs = [.slice a len cap] ∧ IsV W a len cap l ∧ ((∀ n ∈ x.1.weights Try.prog 22, n ≤ reachBytes) → len * 48 ≤ 140737488355328) := by
  rcases open_slice Try.underlying22 h with ⟨rfl, _⟩ | ⟨a, len, cap, m, n, D, Pl, rfl, hb, hl, hm, hmm, rfl, hx⟩
  · exact ⟨none, 0, 0, [], rfl, isV_nil W, fun _ => by omega⟩
  · have hlm : len ≤ m := by rw [hmm]; split <;> omega
    have each : ∀ i, i < len → ∃ e : Vr, (∀ j, j < 4 → W.cell? (a.add (i * 4 + j)) = (vrc e)[j]?) := by
      intro i hi
      obtain ⟨cs', h1, h2⟩ := hx i (by omega)
      rw [ocells51] at h1
      obtain ⟨e, rfl⟩ := open_ver h2
      obtain ⟨_, _, hcell⟩ := World.cells?_some h1
      refine ⟨e, fun j hj => ?_⟩
      have e0 := hcell j (by omega)
      rw [oadd] at e0
      rw [e0]
    obtain ⟨f, hf⟩ := ochoose Vr0 each
    refine ⟨some a, len, cap, (List.range len).map f, rfl, ⟨by simp, hl, hm, fun i hi => ?_⟩, fun hw => ?_⟩
    · obtain ⟨b, off, spot⟩ := a
      have hc := hf i hi
      have hspot : spot = none := by
        have := World.cell?_spot (show W.cell? _ = some _ from hf 0 (by omega) 0 (by omega))
        simpa [Addr.add] using this
      subst hspot
      have hg : ((List.range len).map f).getD i Vr0 = f i := by simp [List.getD_eq_getElem?_getD, hi]
      rw [hg]
      refine ⟨b, off, rfl, ?_, ?_, ?_, ?_, ?_⟩
      · refine hlt (.cell b off) (List.mem_append_left _ ?_)
        exact MemPlace.mem_row.2 ⟨0, by rw [ocells51]; omega, by simp⟩
      · have := hc 0 (by omega); rw [oadd0] at this; exact this
      · have := hc 1 (by omega); rw [oadd0] at this; rw [Nat.add_assoc]; exact this
      · have := hc 2 (by omega); rw [oadd0] at this; rw [Nat.add_assoc]; exact this
      · have := hc 3 (by omega); rw [oadd0] at this; rw [Nat.add_assoc]; exact this
    · simp only [DataW.weights, Try.underlying22] at hw
      have hw1 := hw _ (List.mem_cons_self ..)
      rw [obytes51] at hw1
      simp only [List.length_map, List.length_range, reachBytes] at hw1
      omega
theorem isW_nil (w : World) : IsW w none 0 0 [] := ⟨rfl, Nat.le_refl _, Nat.zero_le _, fun _ hi => absurd hi (Nat.not_lt_zero _)⟩
/-- a slice of writes, opened -/
theorem open_wrs {fuel : Nat} {cs : List Value} {x : DataW H × List MemPlace} (h : DataW.trod enc Try.prog W base spare held fuel 40 cs = some x) (hlt : ∀ p ∈ x.2, p.block < W.heap.size) :
    ∃ a len cap l, cs = [.slice a len cap] ∧ IsW W a len cap l := by
  rcases open_slice Try.underlying40 h with ⟨rfl, _⟩ | ⟨a, len, cap, m, n, D, Pl, rfl, hb, hl, hm, hmm, rfl, hx⟩
  · exact ⟨none, 0, 0, [], rfl, isW_nil W⟩
  · have hlm : len ≤ m := by rw [hmm]; split <;> omega
    have each : ∀ i, i < len → ∃ e : Wt, (∀ j, j < 3 → W.cell? (a.add (i * 3 + j)) = (wtc e)[j]?) := by
      intro i hi
      obtain ⟨cs', h1, h2⟩ := hx i (by omega)
      rw [ocells46] at h1
      obtain ⟨e, rfl⟩ := open_wr h2
      obtain ⟨_, _, hcell⟩ := World.cells?_some h1
      refine ⟨e, fun j hj => ?_⟩
      have e0 := hcell j (by omega)
      rw [oadd] at e0
      rw [e0]
    obtain ⟨f, hf⟩ := ochoose Wt0 each
    refine ⟨some a, len, cap, (List.range len).map f, rfl, ⟨by simp, hl, hm, fun i hi => ?_⟩⟩
    obtain ⟨b, off, spot⟩ := a
    have hc := hf i hi
    have hspot : spot = none := by
      have := World.cell?_spot (show W.cell? _ = some _ from hf 0 (by omega) 0 (by omega))
      simpa [Addr.add] using this
    subst hspot
    have hg : ((List.range len).map f).getD i Wt0 = f i := by simp [List.getD_eq_getElem?_getD, hi]
    rw [hg]
    refine ⟨b, off, rfl, ?_, ?_, ?_, ?_⟩
    · refine hlt (.cell b off) (List.mem_append_left _ ?_)
      exact MemPlace.mem_row.2 ⟨0, by rw [ocells46]; omega, by simp⟩
    · have := hc 0 (by omega); rw [oadd0] at this; exact this
    · have := hc 1 (by omega); rw [oadd0] at this; rw [Nat.add_assoc]; exact this
    · have := hc 2 (by omega); rw [oadd0] at this; rw [Nat.add_assoc]; exact this
/-- versions with their low, of the two cells -/
theorem open_state {fuel : Nat} {cs : List Value} {x : DataW H × List MemPlace} (h : DataW.trod enc Try.prog W base spare held fuel 25 cs = some x) (hlt : ∀ p ∈ x.2, p.block < W.heap.size) (hw : ∀ n ∈ x.1.weights Try.prog 25, n ≤ reachBytes) :
    ∃ a len cap l low, cs = [.slice a len cap, .int .u64 ((low : Nat) : Int)] ∧ IsV W a len cap l ∧ len * 48 ≤ 140737488355328 := by
  obtain ⟨xs, n, rfl, rfl, hl, hx, hf⟩ := DataW.trod_struct Try.underlying25 h
  rw [ocells25] at hl
  have hx2 : xs.length = 2 := hx
  match xs, hx2, cs, hl with
  | [y0, y1], _, [v0, v1], _ =>
    have g0 : DataW.trod enc Try.prog W base spare held n 22 [v0] = some y0 := by simpa [ocells22] using hf 0 _ rfl
    have g1 : DataW.trod enc Try.prog W base spare held n 23 [v1] = some y1 := by simpa [ocells22, ocells23] using hf 1 _ rfl
    obtain ⟨a, len, cap, l, e0, i0, b0⟩ := open_vers g0 (fun p hp => hlt p (by simp; exact .inl hp))
    obtain ⟨n1, e1, _, w1⟩ := DataW.trod_int Try.underlying23 g1
    cases e0; cases e1
    obtain ⟨m, rfl⟩ := Int.eq_ofNat_of_zero_le (wf_u64 w1).1
    refine ⟨a, len, cap, l, m, rfl, i0, b0 (fun q hq => hw q ?_)⟩
    simp [DataW.weights, Try.underlying25, DataW.weightsEach]
    exact .inl hq
end
end Go.Proofs.Ytpgdmkjfgmiacaa

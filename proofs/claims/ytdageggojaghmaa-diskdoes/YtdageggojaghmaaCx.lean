/- steps and fates that are handed in -/
import Derived.Test.YtdageggojaghmaaBx
import Derived.Deep.Slices
import Derived.ChangeSame
import Derived.SizedLaws
namespace Go.Proofs.Ytdageggojaghmaa
open Go.RowKit Go.ChangeShapes Go.WideShapes Go.Deep
variable {X : Nat → Prop}
theorem cells82 : Try.prog.cellsOf 82 = 2 := by kernel_rfl
theorem cells80 : Try.prog.cellsOf 80 = 1 := by kernel_rfl
theorem cells5 : Try.prog.cellsOf 5 = 1 := by kernel_rfl
theorem cells35 : Try.prog.cellsOf 35 = 5 := by kernel_rfl
theorem cells31 : Try.prog.cellsOf 31 = 1 := by kernel_rfl
theorem cells3 : Try.prog.cellsOf 3 = 1 := by kernel_rfl
theorem cells32 : Try.prog.cellsOf 32 = 1 := by kernel_rfl
theorem cells33 : Try.prog.cellsOf 33 = 1 := by kernel_rfl
theorem bytes35 : Try.prog.bytesOf 35 = 72 := by kernel_rfl
theorem add_add' (a : Addr) (i j : Nat) : (a.add i).add j = a.add (i + j) := by
  cases a with
  | mk b off sp => by_cases hi : i = 0 <;> by_cases hj : j = 0 <;> simp [Addr.add, hi, hj] <;> omega
theorem choose_lt' {α : Type} (d : α) {n : Nat} {Pr : Nat → α → Prop} (h : ∀ i, i < n → ∃ x, Pr i x) : ∃ f : Nat → α, ∀ i, i < n → Pr i (f i) :=
  ⟨fun i => if hi : i < n then Classical.choose (h i hi) else d, fun i hi => by simp only [dif_pos hi]; exact Classical.choose_spec (h i hi)⟩
theorem isB_of_some {w : World} {x : Addr} {len cap : Nat} {zs : List Int} (hl : len ≤ cap) (hm : cap ≤ maxLen) (hz : len ≤ zs.length) (hcell : ∀ i, i < zs.length → w.cell? (x.add i) = some (.int .u8 (zs.getD i 0)))
    (hwz : ∀ n ∈ zs, (Lit.int .u8 n).wf = true) (hlt : ∀ b off, x = ⟨b, off, none⟩ → ∀ i, i < len → b < w.heap.size) : IsB w (some x) len cap ((zs.take len).map Int.toNat) := by
  refine ⟨by simp; omega, hl, hm, ?_, ?_⟩
  · intro y hy
    simp only [List.mem_map] at hy
    obtain ⟨n, hn, rfl⟩ := hy
    have := bounds_u8 (hwz n (List.mem_of_mem_take hn))
    omega
  · by_cases h0 : len = 0
    · exact .inl ⟨h0, by intro h; cases h⟩
    · obtain ⟨b, off, spot⟩ := x
      have hspot : spot = none := by
        have := World.cell?_spot (hcell 0 (by omega))
        simpa [Addr.add] using this
      subst hspot
      refine .inr ⟨b, off, rfl, hlt b off rfl 0 (by omega), fun i hi => ?_⟩
      have hc := hcell i (by omega)
      rw [addr_add] at hc
      rw [hc]
      have hi' : i < zs.length := by omega
      have hb := bounds_u8 (hwz zs[i] (List.getElem_mem hi'))
      have e : ((zs.take len).map Int.toNat).getD i 0 = (zs[i]).toNat := by
        simp [List.getD_eq_getElem?_getD, hi, List.getElem?_eq_getElem hi']
      rw [e, List.getD_eq_getElem?_getD, List.getElem?_eq_getElem hi']
      simp only [Option.getD_some]
      rw [Int.toNat_of_nonneg hb.1]
section
variable {H : Type} {enc : TypeId × Value → H} {W : World} {base : Nat} {spare : Nat → Bool} {held : Bool}
/-- bytes within what is handed in -/
theorem open_bytes {fuel : Nat} {cs : List Value} {x : DataW H × List MemPlace} (h : DataW.trod enc Try.prog W base spare held fuel 32 cs = some x) (hlt : ∀ p ∈ x.2, p.block < W.heap.size) :
    ∃ a len cap l, cs = [.slice a len cap] ∧ IsB W a len cap l := by
  rcases open_ints Try.underlying32 Try.underlying5 (by kernel_rfl) h with ⟨rfl, _⟩ | ⟨y, len, cap, zs, rfl, _, hl, hm, hz, rfl, hcell, hwz⟩
  · exact ⟨none, 0, 0, [], rfl, isB_nil W⟩
  · have hz' : len ≤ zs.length := by rw [hz]; split <;> omega
    exact ⟨some y, len, cap, _, rfl, isB_of_some hl hm hz' hcell hwz (fun b off hb0 i hi => hlt (.cell b off) (by subst hb0; exact MemPlace.mem_row.2 ⟨0, by omega, by simp⟩))⟩
set_option maxRecDepth 40000 in
theorem open_fate {fuel : Nat} {cs : List Value} {x : DataW H × List MemPlace} (h : DataW.trod enc Try.prog W base spare held fuel 82 cs = some x) :
    ∃ y : Nat × Nat, cs = [.int .u8 (y.1 : Nat), .int .u8 (y.2 : Nat)] ∧ y.1 < 256 ∧ y.2 < 256 := by
  obtain ⟨xs, n, rfl, rfl, hl, hx, hf⟩ := DataW.trod_struct Try.underlying82 h
  rw [cells82] at hl
  have hx2 : xs.length = 2 := hx
  match xs, hx2, cs, hl with
  | [y0, y1], _, [v0, v1], _ =>
    have g0 : DataW.trod enc Try.prog W base spare held n 80 [v0] = some y0 := by simpa [cells80] using hf 0 _ rfl
    have g1 : DataW.trod enc Try.prog W base spare held n 5 [v1] = some y1 := by simpa [cells5] using hf 1 _ rfl
    obtain ⟨n0, e0, _, w0⟩ := DataW.trod_int Try.underlying80 g0
    obtain ⟨n1, e1, _, w1⟩ := DataW.trod_int Try.underlying5 g1
    have b0 := bounds_u8 w0
    have b1 := bounds_u8 w1
    cases e0; cases e1
    refine ⟨(n0.toNat, n1.toNat), ?_, by simp only []; omega, by simp only []; omega⟩
    rw [Int.toNat_of_nonneg b0.1, Int.toNat_of_nonneg b1.1]
/-- fates, opened -/
theorem open_fates {fuel : Nat} {cs : List Value} {x : DataW H × List MemPlace} (h : DataW.trod enc Try.prog W base spare held fuel 33 cs = some x) (hlt : ∀ p ∈ x.2, p.block < W.heap.size) :
    ∃ a len cap l, cs = [.slice a len cap] ∧ IsF W a len cap l := by
  rcases open_slice Try.underlying33 h with ⟨rfl, _⟩ | ⟨a, len, cap, m, n, D, Pl, rfl, hb, hl, hm, hmm, rfl, hx⟩
  · exact ⟨none, 0, 0, [], rfl, ⟨rfl, Nat.le_refl _, Nat.zero_le _, by simp, fun i hi => by omega⟩⟩
  · have hlm : len ≤ m := by rw [hmm]; split <;> omega
    have each : ∀ i, i < len → ∃ y : Nat × Nat, (W.cell? (a.add (i * 2)) = some (.int .u8 (y.1 : Nat)) ∧ W.cell? (a.add (i * 2 + 1)) = some (.int .u8 (y.2 : Nat))) ∧ y.1 < 256 ∧ y.2 < 256 := by
      intro i hi
      obtain ⟨cs', h1, h2⟩ := hx i (by omega)
      rw [cells82] at h1
      obtain ⟨y, rfl, hy⟩ := open_fate h2
      obtain ⟨_, _, hcell⟩ := World.cells?_some h1
      have e0 := hcell 0 (by omega)
      have e1 := hcell 1 (by omega)
      rw [add_add'] at e0 e1
      exact ⟨y, ⟨by simpa using e0, by simpa using e1⟩, hy⟩
    obtain ⟨f, hf⟩ := choose_lt' (0, 0) each
    refine ⟨some a, len, cap, (List.range len).map f, rfl, by simp, hl, hm, ?_, fun i hi => ?_⟩
    · intro y hy
      obtain ⟨i, hi, rfl⟩ := List.mem_map.1 hy
      exact (hf i (List.mem_range.1 hi)).2
    · obtain ⟨b, off, spot⟩ := a
      have hspot : spot = none := by
        have := World.cell?_spot (hf 0 (by omega)).1.1
        simpa [Addr.add] using this
      subst hspot
      have hg : ((List.range len).map f).getD i (0, 0) = f i := by simp [List.getD_eq_getElem?_getD, hi]
      rw [hg]
      obtain ⟨c0, c1⟩ := (hf i hi).1
      rw [addr_add] at c0 c1
      refine ⟨b, off, rfl, ?_, c0, by rw [Nat.add_assoc]; exact c1⟩
      refine hlt (.cell b off) (List.mem_append_left _ ?_)
      exact MemPlace.mem_row.2 ⟨0, by rw [cells82]; omega, by simp⟩
set_option maxRecDepth 40000 in
theorem open_stp {fuel : Nat} {cs : List Value} {x : DataW H × List MemPlace} (h : DataW.trod enc Try.prog W base spare held fuel 35 cs = some x) (hlt : ∀ p ∈ x.2, p.block < W.heap.size) :
    ∃ (s : Stp) (c0 c1 c2 c3 c4 : Value), cs = [c0, c1, c2, c3, c4] ∧ IsS W c0 c1 c2 c3 c4 s := by
  obtain ⟨xs, n, rfl, rfl, hl, hx, hf⟩ := DataW.trod_struct Try.underlying35 h
  rw [cells35] at hl
  have hx5 : xs.length = 5 := hx
  match xs, hx5, cs, hl with
  | [y0, y1, y2, y3, y4], _, [v0, v1, v2, v3, v4], _ =>
    have g0 : DataW.trod enc Try.prog W base spare held n 31 [v0] = some y0 := by simpa [cells31] using hf 0 _ rfl
    have g1 : DataW.trod enc Try.prog W base spare held n 3 [v1] = some y1 := by simpa [cells3] using hf 1 _ rfl
    have g2 : DataW.trod enc Try.prog W base spare held n 32 [v2] = some y2 := by simpa [cells32] using hf 2 _ rfl
    have g3 : DataW.trod enc Try.prog W base spare held n 3 [v3] = some y3 := by simpa [cells3] using hf 3 _ rfl
    have g4 : DataW.trod enc Try.prog W base spare held n 33 [v4] = some y4 := by simpa [cells33] using hf 4 _ rfl
    obtain ⟨n0, e0, _, w0⟩ := DataW.trod_int Try.underlying31 g0
    obtain ⟨n1, e1, _, w1⟩ := DataW.trod_int Try.underlying3 g1
    obtain ⟨n3, e3, _, w3⟩ := DataW.trod_int Try.underlying3 g3
    obtain ⟨a, len, cap, l, e2, hB⟩ := open_bytes g2 (fun p hp => hlt p (by simp [hp]))
    obtain ⟨a', len', cap', l', e4, hF⟩ := open_fates g4 (fun p hp => hlt p (by simp [hp]))
    have b0 := bounds_u8 w0
    have b3 : n3 ≤ 9223372036854775807 := by simp [Lit.wf] at w3; exact w3.2
    cases e0; cases e1; cases e2; cases e3; cases e4
    refine ⟨⟨n0.toNat, n1, l, n3, l'⟩, _, _, _, _, _, rfl, ?_, rfl, rfl, by simp only []; omega, b3, ⟨_, _, _, rfl, hB⟩, _, _, _, rfl, hF⟩
    simp only []
    rw [Int.toNat_of_nonneg b0.1]
def Stp0 : Stp := ⟨0, 0, [], 0, []⟩
/-- steps in memory -/
def IsSS (w : World) (a : Option Addr) (len cap : Nat) (l : List Stp) : Prop :=
  l.length = len ∧ len ≤ cap ∧ cap ≤ maxLen ∧ len * 72 ≤ reachBytes ∧ ∀ i, i < len → ∃ b off c0 c1 c2 c3 c4, a = some ⟨b, off, none⟩ ∧ b < w.heap.size ∧ w.cell? ⟨b, off + i * 5, none⟩ = some c0 ∧ w.cell? ⟨b, off + i * 5 + 1, none⟩ = some c1 ∧ w.cell? ⟨b, off + i * 5 + 2, none⟩ = some c2 ∧ w.cell? ⟨b, off + i * 5 + 3, none⟩ = some c3 ∧ w.cell? ⟨b, off + i * 5 + 4, none⟩ = some c4 ∧ IsS w c0 c1 c2 c3 c4 (l.getD i Stp0)
theorem IsSS.below {w w' : World} {a : Option Addr} {len cap : Nat} {l : List Stp} (h : IsSS w a len cap l) (hb : Below w.heap.size w w') : IsSS w' a len cap l := by
  refine ⟨h.1, h.2.1, h.2.2.1, h.2.2.2.1, fun i hi => ?_⟩
  obtain ⟨b, off, c0, c1, c2, c3, c4, e, hlt, h0, h1, h2, h3, h4, hs⟩ := h.2.2.2.2 i hi
  have k : ∀ j, w'.cell? ⟨b, j, none⟩ = w.cell? ⟨b, j, none⟩ := fun j => World.cell?_of_block (hb.block b hlt)
  exact ⟨b, off, c0, c1, c2, c3, c4, e, Nat.lt_of_lt_of_le hlt hb.size, (k _).trans h0, (k _).trans h1, (k _).trans h2, (k _).trans h3, (k _).trans h4, hs.below hb⟩
theorem IsSS.frm {w w' : World} {g gs b n : Nat} {st : St} {a : Option Addr} {len cap : Nat} {l : List Stp} (h : IsSS w a len cap l) (hI : IsD X w g gs b n st) (hf : Frm (SD g gs b) w w') : IsSS w' a len cap l := by
  refine ⟨h.1, h.2.1, h.2.2.1, h.2.2.2.1, fun i hi => ?_⟩
  obtain ⟨b', off, c0, c1, c2, c3, c4, e, hlt, h0, h1, h2, h3, h4, hs⟩ := h.2.2.2.2 i hi
  have hne : ¬ SD g gs b b' := fun hi => hI.noU8 hi (h0.trans (congrArg some hs.1))
  have k : ∀ j, w'.cell? ⟨b', j, none⟩ = w.cell? ⟨b', j, none⟩ := fun j => World.cell?_of_block (hf.block b' hlt hne)
  exact ⟨b', off, c0, c1, c2, c3, c4, e, Nat.lt_of_lt_of_le hlt hf.size, (k _).trans h0, (k _).trans h1, (k _).trans h2, (k _).trans h3, (k _).trans h4, hs.frm hI hf⟩
/-- steps, opened -/
theorem open_steps {fuel : Nat} {cs : List Value} {x : DataW H × List MemPlace} (h : DataW.trod enc Try.prog W base spare held fuel 22 cs = some x) (hlt : ∀ p ∈ x.2, p.block < W.heap.size) (hw : ∀ n ∈ x.1.weights Try.prog 22, n ≤ reachBytes) :
    ∃ a len cap l, cs = [.slice a len cap] ∧ IsSS W a len cap l := by
  rcases open_slice Try.underlying22 h with ⟨rfl, _⟩ | ⟨a, len, cap, m, n, D, Pl, rfl, hb, hl, hm, hmm, rfl, hx⟩
  · exact ⟨none, 0, 0, [], rfl, ⟨rfl, Nat.le_refl _, Nat.zero_le _, Nat.zero_le _, fun i hi => by omega⟩⟩
  · have hlm : len ≤ m := by rw [hmm]; split <;> omega
    simp only [DataW.weights, Try.underlying22] at hw
    have hw1 := hw _ (List.mem_cons_self ..)
    rw [bytes35] at hw1
    simp only [List.length_map, List.length_range] at hw1
    have each : ∀ i, i < len → ∃ s : Stp, ∃ c0 c1 c2 c3 c4, W.cell? (a.add (i * 5)) = some c0 ∧ W.cell? (a.add (i * 5 + 1)) = some c1 ∧ W.cell? (a.add (i * 5 + 2)) = some c2 ∧ W.cell? (a.add (i * 5 + 3)) = some c3 ∧ W.cell? (a.add (i * 5 + 4)) = some c4 ∧ IsS W c0 c1 c2 c3 c4 s := by
      intro i hi
      obtain ⟨cs', h1, h2⟩ := hx i (by omega)
      rw [cells35] at h1
      obtain ⟨s, c0, c1, c2, c3, c4, rfl, hs⟩ := open_stp h2 (fun p hp => hlt p (List.mem_append_right _ (List.mem_flatMap.2 ⟨i, List.mem_range.2 (by omega), hp⟩)))
      obtain ⟨_, _, hcell⟩ := World.cells?_some h1
      have e0 := hcell 0 (by omega)
      have e1 := hcell 1 (by omega)
      have e2 := hcell 2 (by omega)
      have e3 := hcell 3 (by omega)
      have e4 := hcell 4 (by omega)
      rw [add_add'] at e0 e1 e2 e3 e4
      exact ⟨s, c0, c1, c2, c3, c4, by simpa using e0, by simpa using e1, by simpa using e2, by simpa using e3, by simpa using e4, hs⟩
    obtain ⟨f, hf⟩ := choose_lt' Stp0 each
    refine ⟨some a, len, cap, (List.range len).map f, rfl, by simp, hl, hm, by omega, fun i hi => ?_⟩
    obtain ⟨b, off, spot⟩ := a
    have hspot : spot = none := by
      obtain ⟨c0, _, _, _, _, h1, _⟩ := hf 0 (by omega)
      have := World.cell?_spot h1
      simpa [Addr.add] using this
    subst hspot
    have hg : ((List.range len).map f).getD i Stp0 = f i := by simp [List.getD_eq_getElem?_getD, hi]
    rw [hg]
    obtain ⟨c0, c1, c2, c3, c4, e0, e1, e2, e3, e4, hs⟩ := hf i hi
    rw [addr_add] at e0 e1 e2 e3 e4
    refine ⟨b, off, c0, c1, c2, c3, c4, rfl, ?_, e0, by rw [Nat.add_assoc]; exact e1, by rw [Nat.add_assoc]; exact e2, by rw [Nat.add_assoc]; exact e3, by rw [Nat.add_assoc]; exact e4, hs⟩
    refine hlt (.cell b off) (List.mem_append_left _ ?_)
    exact MemPlace.mem_row.2 ⟨0, by rw [cells35]; omega, by simp⟩
end
/-- what steps make of a disk -/
def St.steps (n : Nat) (l : List Stp) (st : St) : Nat → St
  | 0 => st
  | k + 1 => ((st.steps n l k).step n (l.getD k Stp0)).1
theorem steps_wr (n : Nat) (l : List Stp) (st : St) : ∀ k, (st.steps n l k).wr ≤ st.wr + k
  | 0 => Nat.le_refl _
  | k + 1 => by have := steps_wr n l st k; have := step_wr (st.steps n l k) n (l.getD k Stp0); simp only [St.steps]; omega
end Go.Proofs.Ytdageggojaghmaa

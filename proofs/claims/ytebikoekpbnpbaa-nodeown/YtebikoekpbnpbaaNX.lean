/- NX KA -/
import Derived.Test.YtebikoekpbnpbaaNE
import Derived.WalkKit
import Derived.Deep.Slices
import Derived.ChangeSame
import Derived.ProofKit
import Derived.OpenShut
import Derived.ShutString
import Derived.ChangeOld
import Derived.Below
import Derived.JoinedCond
/- pages and bytes that are handed in -/
namespace Go.Proofs.Ytebikoekpbnpbaa
open Go.RowKit Go.ChangeShapes Go.WideShapes Go.Deep Cod
set_option maxRecDepth 40000
set_option linter.unusedVariables false
set_option linter.unusedSimpArgs false
theorem ocells5 : Try.prog.cellsOf 5 = 1 := by kernel_rfl
theorem ocells4 : Try.prog.cellsOf 4 = 1 := by kernel_rfl
theorem ocells22 : Try.prog.cellsOf 22 = 1 := by kernel_rfl
theorem ocells23 : Try.prog.cellsOf 23 = 1 := by kernel_rfl
theorem ocells25 : Try.prog.cellsOf 25 = 4 := by kernel_rfl
theorem ocells26 : Try.prog.cellsOf 26 = 1 := by kernel_rfl
theorem oadd (a : Addr) (i j : Nat) : (a.add i).add j = a.add (i + j) := by
  cases a with
  | mk b off sp => by_cases hi : i = 0 <;> by_cases hj : j = 0 <;> simp [Addr.add, hi, hj] <;> omega
theorem oadd0 (b off i : Nat) : (⟨b, off, none⟩ : Addr).add i = ⟨b, off + i, none⟩ := by
  by_cases hi : i = 0 <;> simp [Addr.add, hi]
theorem ochoose {α : Type} (d : α) {n : Nat} {Q : Nat → α → Prop} (h : ∀ i, i < n → ∃ x, Q i x) : ∃ f : Nat → α, ∀ i, i < n → Q i (f i) :=
  ⟨fun i => if hi : i < n then Classical.choose (h i hi) else d, fun i hi => by simp only [dif_pos hi]; exact Classical.choose_spec (h i hi)⟩
theorem owf_u8 {n : Int} (h : (Lit.int .u8 n).wf = true) : 0 ≤ n ∧ n < 256 := by
  simp [Lit.wf, IntKind.min, IntKind.max, IntKind.bits, IntKind.signed] at h
  omega
theorem owf_i64 {n : Int} (h : (Lit.int .i64 n).wf = true) : i64B n := by
  simpa [Lit.wf, IntKind.min, IntKind.max, IntKind.bits, IntKind.signed, i64B] using h
theorem obulk_one {H : Type} (d : DataW H) : 1 ≤ Rows.uptoBulk d := by
  cases d with
  | lit l => cases l <;> simp [Rows.uptoBulk]
  | nil => simp [Rows.uptoBulk]
  | ptr d => simp [Rows.uptoBulk]
  | slice elems spare => simp [Rows.uptoBulk]
  | agg parts => simp [Rows.uptoBulk]
  | iface t d => simp [Rows.uptoBulk]
  | map entries => simp [Rows.uptoBulk]
  | held h => simp [Rows.uptoBulk]
theorem obulk_len {H : Type} (l : List (DataW H)) : l.length ≤ Rows.uptoBulkAll l := by
  induction l with
  | nil => simp [Rows.uptoBulkAll]
  | cons x r ih => have := obulk_one x; simp only [Rows.uptoBulkAll, List.length_cons]; omega
section
variable {H : Type} {enc : TypeId × Value → H} {W : World} {base : Nat} {spare : Nat → Bool} {held : Bool}
/-- bytes, opened -/
theorem open_bs {fuel : Nat} {cs : List Value} {x : DataW H × List MemPlace} (h : DataW.trod enc Try.prog W base spare held fuel 26 cs = some x) (hlt : ∀ p ∈ x.2, p.block < W.heap.size) :
    ∃ a len cap l, cs = [.slice a len cap] ∧ IsB W a len cap l := by
  rcases open_ints Try.underlying26 Try.underlying5 ocells5 h with ⟨rfl, _⟩ | ⟨y, len, cap, zs, rfl, _, hl, hm, hz, rfl, hcell, hwz⟩
  · exact ⟨none, 0, 0, [], rfl, ⟨rfl, Nat.le_refl _, Nat.zero_le _, nofun, .inl ⟨rfl, fun _ => rfl⟩⟩⟩
  · have hz' : len ≤ zs.length := by rw [hz]; split <;> omega
    refine ⟨some y, len, cap, (zs.take len).map Int.toNat, rfl, ⟨by simp; omega, hl, hm, ?_, ?_⟩⟩
    · intro z hz2
      simp only [List.mem_map] at hz2
      obtain ⟨n, hn, rfl⟩ := hz2
      have := owf_u8 (hwz n (List.mem_of_mem_take hn))
      omega
    · by_cases h0 : len = 0
      · exact .inl ⟨h0, nofun⟩
      · obtain ⟨b, off, spot⟩ := y
        have hspot : spot = none := by
          have := World.cell?_spot (hcell 0 (by omega))
          simpa [Addr.add] using this
        subst hspot
        refine .inr ⟨b, off, rfl, hlt (.cell b off) (MemPlace.mem_row.2 ⟨0, by omega, by simp⟩), fun i hi => ?_⟩
        have hi' : i < zs.length := by omega
        have hc := hcell i hi'
        rw [oadd0] at hc
        rw [hc]
        have hb := owf_u8 (hwz zs[i] (List.getElem_mem hi'))
        have e : ((zs.take len).map Int.toNat).getD i 0 = (zs[i]).toNat := by
          simp [List.getD_eq_getElem?_getD, hi, List.getElem?_eq_getElem hi']
        rw [e, List.getD_eq_getElem?_getD, List.getElem?_eq_getElem hi']
        simp only [Option.getD_some]
        rw [Int.toNat_of_nonneg hb.1]
/-- numbers, opened -/
theorem open_ks {fuel : Nat} {cs : List Value} {x : DataW H × List MemPlace} (h : DataW.trod enc Try.prog W base spare held fuel 23 cs = some x) (hlt : ∀ p ∈ x.2, p.block < W.heap.size) :
    ∃ a len cap l, cs = [.slice a len cap] ∧ IsK W a len cap l ∧ len ≤ Rows.uptoBulk x.1 := by
  rcases open_ints Try.underlying23 Try.underlying3 (by kernel_rfl) h with ⟨rfl, _⟩ | ⟨y, len, cap, zs, rfl, _, hl, hm, hz, rfl, hcell, hwz⟩
  · exact ⟨none, 0, 0, [], rfl, isK_nil W, Nat.zero_le _⟩
  · have hz' : len ≤ zs.length := by rw [hz]; split <;> omega
    refine ⟨some y, len, cap, zs.take len, rfl, ⟨by simp; omega, hl, hm, nofun, fun i hi => ?_⟩, ?_⟩
    · obtain ⟨b, off, spot⟩ := y
      have hspot : spot = none := by
        have := World.cell?_spot (hcell 0 (by omega))
        simpa [Addr.add] using this
      subst hspot
      have hi' : i < zs.length := by omega
      have e : (zs.take len).getD i 0 = zs.getD i 0 := by
        simp [List.getD_eq_getElem?_getD, List.getElem?_take, hi]
      have e2 : zs.getD i 0 = zs[i] := by simp [List.getD_eq_getElem?_getD, List.getElem?_eq_getElem hi']
      refine ⟨by rw [e, e2]; exact owf_i64 (hwz _ (List.getElem_mem hi')), b, off, rfl, ?_, ?_⟩
      · exact hlt (.cell b off) (MemPlace.mem_row.2 ⟨0, by omega, by simp⟩)
      · have := hcell i hi'
        rw [oadd0] at this
        rw [e, this]
    · have h1 := obulk_len (lits (H := H) .i64 (zs.take len))
      have h2 : (lits (H := H) .i64 (zs.take len)).length = len := by simp [lits]; omega
      simp only [Rows.uptoBulk]
      omega
end
end Go.Proofs.Ytebikoekpbnpbaa
/- pages that are handed in, with their parts' lengths -/
namespace Go.Proofs.Ytebikoekpbnpbaa
open Go.RowKit Go.ChangeShapes Go.WideShapes Go.Deep Cod
set_option maxRecDepth 40000
set_option linter.unusedVariables false
set_option linter.unusedSimpArgs false
theorem obulk_mem {H : Type} (l : List (DataW H)) : ∀ x ∈ l, Rows.uptoBulk x ≤ Rows.uptoBulkAll l := by
  induction l with
  | nil => intro x hx; cases hx
  | cons y r ih =>
    intro x hx
    simp only [Rows.uptoBulkAll]
    rcases List.mem_cons.1 hx with rfl | hx
    · omega
    · have := ih x hx
      omega
section
variable {H : Type} {enc : TypeId × Value → H} {W : World} {base : Nat} {spare : Nat → Bool} {held : Bool}
theorem open_bs2 {fuel : Nat} {cs : List Value} {x : DataW H × List MemPlace} (h : DataW.trod enc Try.prog W base spare held fuel 26 cs = some x) (hlt : ∀ p ∈ x.2, p.block < W.heap.size) :
    ∃ a len cap l, cs = [.slice a len cap] ∧ IsB W a len cap l ∧ len ≤ Rows.uptoBulk x.1 := by
  obtain ⟨a, len, cap, l, rfl, hI⟩ := open_bs h hlt
  refine ⟨a, len, cap, l, rfl, hI, ?_⟩
  rcases open_ints Try.underlying26 Try.underlying5 ocells5 h with ⟨e, _⟩ | ⟨y, len', cap', zs, e, _, hl, hm, hz, rfl, hcell, hwz⟩
  · simp only [List.cons.injEq, Value.slice.injEq, and_true] at e
    rw [e.2.1]
    exact Nat.zero_le _
  · simp only [List.cons.injEq, Value.slice.injEq, and_true] at e
    have hz' : len' ≤ zs.length := by rw [hz]; split <;> omega
    have h1 := obulk_len (lits (H := H) .u8 (zs.take len'))
    have h2 : (lits (H := H) .u8 (zs.take len')).length = len' := by simp [lits]; omega
    simp only [Rows.uptoBulk]
    rw [e.2.1]
    omega
theorem open_bss2 {fuel : Nat} {cs : List Value} {x : DataW H × List MemPlace} (h : DataW.trod enc Try.prog W base spare held fuel 22 cs = some x) (hlt : ∀ p ∈ x.2, p.block < W.heap.size) :
    ∃ a len cap l, cs = [.slice a len cap] ∧ IsL W a len cap l ∧ len ≤ Rows.uptoBulk x.1 ∧ ∀ b ∈ l, b.length ≤ Rows.uptoBulk x.1 := by
  rcases open_slice Try.underlying22 h with ⟨rfl, _⟩ | ⟨a, len, cap, m, n, D, Pl, rfl, hb, hl, hm, hmm, rfl, hx⟩
  · exact ⟨none, 0, 0, [], rfl, isL_nil W, Nat.zero_le _, nofun⟩
  · have hlm : len ≤ m := by rw [hmm]; split <;> omega
    have hsum : ∀ i, i < len → Rows.uptoBulk (D i) ≤ Rows.uptoBulkAll ((List.range len).map D) := fun i hi => obulk_mem _ _ (List.mem_map.2 ⟨i, List.mem_range.2 hi, rfl⟩)
    have each : ∀ i, i < len → ∃ e : Value × List Nat, W.cell? (a.add i) = some e.1 ∧ (∃ a' n' c', e.1 = .slice a' n' c' ∧ IsB W a' n' c' e.2) ∧ e.2.length ≤ Rows.uptoBulk (D i) := by
      intro i hi
      obtain ⟨cs', h1, h2⟩ := hx i (by omega)
      rw [ocells26] at h1
      obtain ⟨a', n', c', l', rfl, hI, hJ⟩ := open_bs2 h2 (fun p hp => hlt p (List.mem_append_right _ (List.mem_flatMap.2 ⟨i, List.mem_range.2 (by omega), hp⟩)))
      obtain ⟨_, _, hcell⟩ := World.cells?_some h1
      have e0 := hcell 0 (by omega)
      rw [oadd] at e0
      exact ⟨(.slice a' n' c', l'), by simpa using e0, ⟨a', n', c', rfl, hI⟩, by rw [hI.1]; exact hJ⟩
    obtain ⟨f, hf⟩ := ochoose (Value.bool false, []) each
    have hle := obulk_len ((List.range len).map D)
    simp only [List.length_map, List.length_range] at hle
    refine ⟨some a, len, cap, (List.range len).map (fun i => (f i).2), rfl, ⟨by simp, hl, hm, nofun, fun i hi => ?_⟩, ?_, ?_⟩
    · obtain ⟨b, off, spot⟩ := a
      obtain ⟨hc, ⟨a', n', c', he, hI⟩, _⟩ := hf i hi
      have hspot : spot = none := by
        have := World.cell?_spot (hf 0 (by omega)).1
        simpa [Addr.add] using this
      subst hspot
      have hg : ((List.range len).map (fun i => (f i).2)).getD i [] = (f i).2 := by simp [List.getD_eq_getElem?_getD, hi]
      rw [hg]
      refine ⟨b, off, a', n', c', rfl, ?_, ?_, hI⟩
      · refine hlt (.cell b off) (List.mem_append_left _ ?_)
        exact MemPlace.mem_row.2 ⟨0, by rw [ocells26]; omega, by simp⟩
      · rw [oadd0] at hc; rw [hc, he]
    · simp only [Rows.uptoBulk]
      omega
    · intro b hb
      simp only [List.mem_map, List.mem_range] at hb
      obtain ⟨i, hi, rfl⟩ := hb
      have h1 := (hf i hi).2.2
      have h2 := hsum i hi
      simp only [Rows.uptoBulk]
      omega
/-- a page, opened -/
theorem open_page2 {fuel : Nat} {cs : List Value} {x : DataW H × List MemPlace} (h : DataW.trod enc Try.prog W base spare held fuel 25 cs = some x) (hlt : ∀ p ∈ x.2, p.block < W.heap.size) :
    ∃ (v : Pv) (p : Pg), cs = (pgc p.leaf v).toList ∧ IsG W v p ∧ v.kn + v.vn + v.inn ≤ Rows.uptoBulk x.1 ∧ (∀ b ∈ p.keys, b.length ≤ Rows.uptoBulk x.1) ∧ ∀ b ∈ p.vals, b.length ≤ Rows.uptoBulk x.1 := by
  obtain ⟨xs, n, rfl, rfl, hl, hx, hf⟩ := DataW.trod_struct Try.underlying25 h
  rw [ocells25] at hl
  have hx4 : xs.length = 4 := hx
  match xs, hx4, cs, hl with
  | [y0, y1, y2, y3], _, [v0, v1, v2, v3], _ =>
    have g0 : DataW.trod enc Try.prog W base spare held n 4 [v0] = some y0 := by simpa [ocells4] using hf 0 _ rfl
    have g1 : DataW.trod enc Try.prog W base spare held n 22 [v1] = some y1 := by simpa [ocells4, ocells22] using hf 1 _ rfl
    have g2 : DataW.trod enc Try.prog W base spare held n 22 [v2] = some y2 := by simpa [ocells4, ocells22] using hf 2 _ rfl
    have g3 : DataW.trod enc Try.prog W base spare held n 23 [v3] = some y3 := by simpa [ocells4, ocells22, ocells23] using hf 3 _ rfl
    obtain ⟨b0, e0, _⟩ := DataW.trod_bool Try.underlying4 g0
    obtain ⟨ka, kn, kc, ks, e1, k1, l1, m1⟩ := open_bss2 g1 (fun p hp => hlt p (by simp [hp]))
    obtain ⟨va, vn, vc, vs, e2, k2, l2, m2⟩ := open_bss2 g2 (fun p hp => hlt p (by simp [hp]))
    obtain ⟨ia, inn, ic, is', e3, k3, l3⟩ := open_ks g3 (fun p hp => hlt p (by simp [hp]))
    cases e0; cases e1; cases e2; cases e3
    refine ⟨⟨ka, kn, kc, va, vn, vc, ia, inn, ic⟩, ⟨b0, ks, vs, is'⟩, rfl, ⟨k1, k2, k3⟩, ?_, ?_, ?_⟩
    · simp only [List.map_cons, List.map_nil, Rows.uptoBulk, Rows.uptoBulkAll]
      omega
    · intro b hb
      have := m1 b hb
      simp only [List.map_cons, List.map_nil, Rows.uptoBulk, Rows.uptoBulkAll]
      omega
    · intro b hb
      have := m2 b hb
      simp only [List.map_cons, List.map_nil, Rows.uptoBulk, Rows.uptoBulkAll]
      omega
end
end Go.Proofs.Ytebikoekpbnpbaa

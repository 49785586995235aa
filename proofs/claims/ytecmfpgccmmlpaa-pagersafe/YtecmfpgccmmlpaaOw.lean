/- what is handed in, opened -/
import Derived.Test.YtecmfpgccmmlpaaPf
import Derived.Test.YtecmfpgccmmlpaaDx
import Derived.WalkKit
import Derived.Deep.Slices
import Derived.ChangeSame
import Derived.ProofKit
import Derived.OpenShut
import Derived.ShutString
import Derived.ChangeOld
import Derived.Below
import Derived.JoinedCond
import Derived.SizedLaws
namespace Go.Proofs.Ytecmfpgccmmlpaa
open Go.RowKit Go.ChangeShapes Go.WideShapes Go.Deep
set_option maxRecDepth 40000
set_option linter.unusedVariables false
set_option linter.unusedSimpArgs false
theorem ocells5 : Try.prog.cellsOf 5 = 1 := by kernel_rfl
theorem ocells3 : Try.prog.cellsOf 3 = 1 := by kernel_rfl
theorem ocells22 : Try.prog.cellsOf 22 = 1 := by kernel_rfl
theorem ocells24 : Try.prog.cellsOf 24 = 5 := by kernel_rfl
theorem ocells25 : Try.prog.cellsOf 25 = 1 := by kernel_rfl
theorem ocells46 : Try.prog.cellsOf 46 = 1 := by kernel_rfl
theorem ocells56 : Try.prog.cellsOf 56 = 1 := by kernel_rfl
theorem ocells89 : Try.prog.cellsOf 89 = 2 := by kernel_rfl
theorem ocells87 : Try.prog.cellsOf 87 = 1 := by kernel_rfl
theorem oadd (a : Addr) (i j : Nat) : (a.add i).add j = a.add (i + j) := by
  cases a with
  | mk b off sp => by_cases hi : i = 0 <;> by_cases hj : j = 0 <;> simp [Addr.add, hi, hj] <;> omega
theorem oadd0 (b off i : Nat) : (⟨b, off, none⟩ : Addr).add i = ⟨b, off + i, none⟩ := by
  by_cases hi : i = 0 <;> simp [Addr.add, hi]
theorem ochoose {α : Type} (d : α) {n : Nat} {Q : Nat → α → Prop} (h : ∀ i, i < n → ∃ x, Q i x) : ∃ f : Nat → α, ∀ i, i < n → Q i (f i) :=
  ⟨fun i => if hi : i < n then Classical.choose (h i hi) else d, fun i hi => by simp only [dif_pos hi]; exact Classical.choose_spec (h i hi)⟩
theorem owf_u8 {n : Int} (h : (Lit.int .u8 n).wf = true) : 0 ≤ n ∧ n < 256 := by
  simp [Lit.wf, IntKind.min, IntKind.max, IntKind.bits, IntKind.signed] at h
  omega
theorem wf_u64 {n : Int} (h : (Lit.int .u64 n).wf = true) : 0 ≤ n ∧ n < 18446744073709551616 := by
  simp [Lit.wf, IntKind.min, IntKind.max, IntKind.bits, IntKind.signed] at h
  omega
theorem wf_i64 {n : Int} (h : (Lit.int .i64 n).wf = true) : -9223372036854775808 ≤ n ∧ n ≤ 9223372036854775807 := by
  simpa [Lit.wf, IntKind.min, IntKind.max, IntKind.bits, IntKind.signed] using h
/-- a list of slices of bytes in memory -/
def IsL (w : World) (a : Option Addr) (n c : Nat) (L : List (List Nat)) : Prop :=
  L.length = n ∧ n ≤ c ∧ c ≤ maxLen ∧ (a = none → c = 0) ∧ ∀ i, i < n → ∃ b off a' n' c', a = some ⟨b, off, none⟩ ∧ b < w.heap.size ∧ w.cell? ⟨b, off + i, none⟩ = some (.slice a' n' c') ∧ IsB w a' n' c' (L.getD i [])
theorem IsL.below {w w' : World} {a : Option Addr} {n c : Nat} {L : List (List Nat)} (h : IsL w a n c L) (hb : Below w.heap.size w w') : IsL w' a n c L := by
  refine ⟨h.1, h.2.1, h.2.2.1, h.2.2.2.1, fun i hi => ?_⟩
  obtain ⟨b, off, a', n', c', e, hlt, h0, h1⟩ := h.2.2.2.2 i hi
  exact ⟨b, off, a', n', c', e, Nat.lt_of_lt_of_le hlt hb.size, (World.cell?_of_block (hb.block b hlt)).trans h0, h1.below hb⟩
/-- numbers in memory -/
def i64B (t : Int) : Prop := -9223372036854775808 ≤ t ∧ t ≤ 9223372036854775807
def IsK (w : World) (a : Option Addr) (n c : Nat) (l : List Int) : Prop :=
  l.length = n ∧ n ≤ c ∧ c ≤ maxLen ∧ (a = none → c = 0) ∧ ∀ i, i < n → i64B (l.getD i 0) ∧ ∃ b off, a = some ⟨b, off, none⟩ ∧ b < w.heap.size ∧ w.cell? ⟨b, off + i, none⟩ = some (.int .i64 (l.getD i 0))
theorem IsK.below {w w' : World} {a : Option Addr} {n c : Nat} {l : List Int} (h : IsK w a n c l) (hb : Below w.heap.size w w') : IsK w' a n c l := by
  refine ⟨h.1, h.2.1, h.2.2.1, h.2.2.2.1, fun i hi => ?_⟩
  obtain ⟨ht, b, off, e, hlt, h0⟩ := h.2.2.2.2 i hi
  exact ⟨ht, b, off, e, Nat.lt_of_lt_of_le hlt hb.size, (World.cell?_of_block (hb.block b hlt)).trans h0⟩
theorem isL_nil (w : World) : IsL w none 0 0 [] := ⟨rfl, Nat.le_refl _, Nat.zero_le _, fun _ => rfl, fun _ hi => absurd hi (Nat.not_lt_zero _)⟩
theorem isK_nil (w : World) : IsK w none 0 0 [] := ⟨rfl, Nat.le_refl _, Nat.zero_le _, fun _ => rfl, fun _ hi => absurd hi (Nat.not_lt_zero _)⟩
theorem owf_i64 {n : Int} (h : (Lit.int .i64 n).wf = true) : i64B n := wf_i64 h
theorem obulk_one {H : Type} (d : DataW H) : 1 ≤ Rows.uptoBulk d := by
  cases d with
  | lit l => cases l <;> simp [Rows.uptoBulk]
  | nil => simp [Rows.uptoBulk]
  | ptr d => simp [Rows.uptoBulk]
  | slice elems spare => simp [Rows.uptoBulk]
  | agg parts => simp [Rows.uptoBulk]
  | iface t d => simp [Rows.uptoBulk]
  | map entries => simp [Rows.uptoBulk]
  | held h => simp [Rows.uptoBulk]
theorem obulk_len {H : Type} (l : List (DataW H)) : l.length ≤ Rows.uptoBulkAll l := by
  induction l with
  | nil => simp [Rows.uptoBulkAll]
  | cons x r ih => have := obulk_one x; simp only [Rows.uptoBulkAll, List.length_cons]; omega
section
variable {H : Type} {enc : TypeId × Value → H} {W : World} {base : Nat} {spare : Nat → Bool} {held : Bool}
/-- bytes, opened -/
theorem open_bs {fuel : Nat} {cs : List Value} {x : DataW H × List MemPlace} (h : DataW.trod enc Try.prog W base spare held fuel 25 cs = some x) (hlt : ∀ p ∈ x.2, p.block < W.heap.size) :
    ∃ a len cap l, cs = [.slice a len cap] ∧ IsB W a len cap l := by
  rcases open_ints Try.underlying25 Try.underlying5 ocells5 h with ⟨rfl, _⟩ | ⟨y, len, cap, zs, rfl, _, hl, hm, hz, rfl, hcell, hwz⟩
  · exact ⟨none, 0, 0, [], rfl, ⟨rfl, Nat.le_refl _, Nat.zero_le _, nofun, .inl ⟨rfl, fun _ => rfl⟩⟩⟩
  · have hz' : len ≤ zs.length := by rw [hz]; split <;> omega
    refine ⟨some y, len, cap, (zs.take len).map Int.toNat, rfl, ⟨by simp; omega, hl, hm, ?_, ?_⟩⟩
    · intro z hz2
      simp only [List.mem_map] at hz2
      obtain ⟨n, hn, rfl⟩ := hz2
      have := owf_u8 (hwz n (List.mem_of_mem_take hn))
      omega
    · by_cases h0 : len = 0
      · exact .inl ⟨h0, nofun⟩
      · obtain ⟨b, off, spot⟩ := y
        have hspot : spot = none := by
          have := World.cell?_spot (hcell 0 (by omega))
          simpa [Addr.add] using this
        subst hspot
        refine .inr ⟨b, off, rfl, hlt (.cell b off) (MemPlace.mem_row.2 ⟨0, by omega, by simp⟩), fun i hi => ?_⟩
        have hi' : i < zs.length := by omega
        have hc := hcell i hi'
        rw [oadd0] at hc
        rw [hc]
        have hb := owf_u8 (hwz zs[i] (List.getElem_mem hi'))
        have e : ((zs.take len).map Int.toNat).getD i 0 = (zs[i]).toNat := by
          simp [List.getD_eq_getElem?_getD, hi, List.getElem?_eq_getElem hi']
        rw [e, List.getD_eq_getElem?_getD, List.getElem?_eq_getElem hi']
        simp only [Option.getD_some]
        rw [Int.toNat_of_nonneg hb.1]
/-- lists of bytes, opened -/
theorem open_bss {fuel : Nat} {cs : List Value} {x : DataW H × List MemPlace} (h : DataW.trod enc Try.prog W base spare held fuel 56 cs = some x) (hlt : ∀ p ∈ x.2, p.block < W.heap.size) :
    ∃ a len cap l, cs = [.slice a len cap] ∧ IsL W a len cap l ∧ len ≤ Rows.uptoBulk x.1 := by
  rcases open_slice Try.underlying56 h with ⟨rfl, _⟩ | ⟨a, len, cap, m, n, D, Pl, rfl, hb, hl, hm, hmm, rfl, hx⟩
  · exact ⟨none, 0, 0, [], rfl, isL_nil W, Nat.zero_le _⟩
  · have hlm : len ≤ m := by rw [hmm]; split <;> omega
    have each : ∀ i, i < len → ∃ e : Value × List Nat, W.cell? (a.add i) = some e.1 ∧ ∃ a' n' c', e.1 = .slice a' n' c' ∧ IsB W a' n' c' e.2 := by
      intro i hi
      obtain ⟨cs', h1, h2⟩ := hx i (by omega)
      rw [ocells25] at h1
      obtain ⟨a', n', c', l', rfl, hI⟩ := open_bs h2 (fun p hp => hlt p (List.mem_append_right _ (List.mem_flatMap.2 ⟨i, List.mem_range.2 (by omega), hp⟩)))
      obtain ⟨_, _, hcell⟩ := World.cells?_some h1
      have e0 := hcell 0 (by omega)
      rw [oadd] at e0
      exact ⟨(.slice a' n' c', l'), by simpa using e0, a', n', c', rfl, hI⟩
    obtain ⟨f, hf⟩ := ochoose (Value.bool false, []) each
    refine ⟨some a, len, cap, (List.range len).map (fun i => (f i).2), rfl, ⟨by simp, hl, hm, nofun, fun i hi => ?_⟩, ?_⟩
    · obtain ⟨b, off, spot⟩ := a
      obtain ⟨hc, a', n', c', he, hI⟩ := hf i hi
      have hspot : spot = none := by
        have := World.cell?_spot (hf 0 (by omega)).1
        simpa [Addr.add] using this
      subst hspot
      have hg : ((List.range len).map (fun i => (f i).2)).getD i [] = (f i).2 := by simp [List.getD_eq_getElem?_getD, hi]
      rw [hg]
      refine ⟨b, off, a', n', c', rfl, ?_, ?_, hI⟩
      · refine hlt (.cell b off) (List.mem_append_left _ ?_)
        exact MemPlace.mem_row.2 ⟨0, by rw [ocells25]; omega, by simp⟩
      · rw [oadd0] at hc; rw [hc, he]
    · have := obulk_len ((List.range len).map D)
      simp only [List.length_map, List.length_range] at this
      simp only [Rows.uptoBulk]
      omega
/-- numbers, opened -/
theorem open_ks {fuel : Nat} {cs : List Value} {x : DataW H × List MemPlace} (h : DataW.trod enc Try.prog W base spare held fuel 46 cs = some x) (hlt : ∀ p ∈ x.2, p.block < W.heap.size) :
    ∃ a len cap l, cs = [.slice a len cap] ∧ IsK W a len cap l ∧ len ≤ Rows.uptoBulk x.1 := by
  rcases open_ints Try.underlying46 Try.underlying3 (by kernel_rfl) h with ⟨rfl, _⟩ | ⟨y, len, cap, zs, rfl, _, hl, hm, hz, rfl, hcell, hwz⟩
  · exact ⟨none, 0, 0, [], rfl, isK_nil W, Nat.zero_le _⟩
  · have hz' : len ≤ zs.length := by rw [hz]; split <;> omega
    refine ⟨some y, len, cap, zs.take len, rfl, ⟨by simp; omega, hl, hm, nofun, fun i hi => ?_⟩, ?_⟩
    · obtain ⟨b, off, spot⟩ := y
      have hspot : spot = none := by
        have := World.cell?_spot (hcell 0 (by omega))
        simpa [Addr.add] using this
      subst hspot
      have hi' : i < zs.length := by omega
      have e : (zs.take len).getD i 0 = zs.getD i 0 := by
        simp [List.getD_eq_getElem?_getD, List.getElem?_take, hi]
      have e2 : zs.getD i 0 = zs[i] := by simp [List.getD_eq_getElem?_getD, List.getElem?_eq_getElem hi']
      refine ⟨by rw [e, e2]; exact owf_i64 (hwz _ (List.getElem_mem hi')), b, off, rfl, ?_, ?_⟩
      · exact hlt (.cell b off) (MemPlace.mem_row.2 ⟨0, by omega, by simp⟩)
      · have := hcell i hi'
        rw [oadd0] at this
        rw [e, this]
    · have h1 := obulk_len (lits (H := H) .i64 (zs.take len))
      have h2 : (lits (H := H) .i64 (zs.take len)).length = len := by simp [lits]; omega
      simp only [Rows.uptoBulk]
      omega
set_option maxRecDepth 40000 in
theorem open_fate {fuel : Nat} {cs : List Value} {x : DataW H × List MemPlace} (h : DataW.trod enc Try.prog W base spare held fuel 89 cs = some x) :
    ∃ y : Nat × Nat, cs = [.int .u8 (y.1 : Nat), .int .u8 (y.2 : Nat)] ∧ y.1 < 256 ∧ y.2 < 256 := by
  obtain ⟨xs, n, rfl, rfl, hl, hx, hf⟩ := DataW.trod_struct Try.underlying89 h
  rw [ocells89] at hl
  have hx2 : xs.length = 2 := hx
  match xs, hx2, cs, hl with
  | [y0, y1], _, [v0, v1], _ =>
    have g0 : DataW.trod enc Try.prog W base spare held n 87 [v0] = some y0 := by simpa [ocells87] using hf 0 _ rfl
    have g1 : DataW.trod enc Try.prog W base spare held n 5 [v1] = some y1 := by simpa [ocells5] using hf 1 _ rfl
    obtain ⟨n0, e0, _, w0⟩ := DataW.trod_int Try.underlying87 g0
    obtain ⟨n1, e1, _, w1⟩ := DataW.trod_int Try.underlying5 g1
    have b0 := owf_u8 w0
    have b1 := owf_u8 w1
    cases e0; cases e1
    refine ⟨(n0.toNat, n1.toNat), ?_, by simp only []; omega, by simp only []; omega⟩
    rw [Int.toNat_of_nonneg b0.1, Int.toNat_of_nonneg b1.1]
/-- fates, opened -/
theorem open_fates {fuel : Nat} {cs : List Value} {x : DataW H × List MemPlace} (h : DataW.trod enc Try.prog W base spare held fuel 33 cs = some x) (hlt : ∀ p ∈ x.2, p.block < W.heap.size) :
    ∃ a len cap l, cs = [.slice a len cap] ∧ IsF W a len cap l := by
  rcases open_slice Try.underlying33 h with ⟨rfl, _⟩ | ⟨a, len, cap, m, n, D, Pl, rfl, hb, hl, hm, hmm, rfl, hx⟩
  · exact ⟨none, 0, 0, [], rfl, ⟨rfl, Nat.le_refl _, Nat.zero_le _, by simp, fun i hi => by omega⟩⟩
  · have hlm : len ≤ m := by rw [hmm]; split <;> omega
    have each : ∀ i, i < len → ∃ y : Nat × Nat, (W.cell? (a.add (i * 2)) = some (.int .u8 (y.1 : Nat)) ∧ W.cell? (a.add (i * 2 + 1)) = some (.int .u8 (y.2 : Nat))) ∧ y.1 < 256 ∧ y.2 < 256 := by
      intro i hi
      obtain ⟨cs', h1, h2⟩ := hx i (by omega)
      rw [ocells89] at h1
      obtain ⟨y, rfl, hy⟩ := open_fate h2
      obtain ⟨_, _, hcell⟩ := World.cells?_some h1
      have e0 := hcell 0 (by omega)
      have e1 := hcell 1 (by omega)
      rw [oadd] at e0 e1
      exact ⟨y, ⟨by simpa using e0, by simpa using e1⟩, hy⟩
    obtain ⟨f, hf⟩ := ochoose (0, 0) each
    refine ⟨some a, len, cap, (List.range len).map f, rfl, by simp, hl, hm, ?_, fun i hi => ?_⟩
    · intro y hy
      obtain ⟨i, hi, rfl⟩ := List.mem_map.1 hy
      exact (hf i (List.mem_range.1 hi)).2
    · obtain ⟨b, off, spot⟩ := a
      have hspot : spot = none := by
        have := World.cell?_spot (hf 0 (by omega)).1.1
        simpa [Addr.add] using this
      subst hspot
      have hg : ((List.range len).map f).getD i (0, 0) = f i := by simp [List.getD_eq_getElem?_getD, hi]
      rw [hg]
      obtain ⟨c0, c1⟩ := (hf i hi).1
      rw [addr_add] at c0 c1
      refine ⟨b, off, rfl, ?_, c0, by rw [Nat.add_assoc]; exact c1⟩
      refine hlt (.cell b off) (List.mem_append_left _ ?_)
      exact MemPlace.mem_row.2 ⟨0, by rw [ocells89]; omega, by simp⟩
/-- a superblock's numbers, opened -/
theorem open_sup {fuel : Nat} {cs : List Value} {x : DataW H × List MemPlace} (h : DataW.trod enc Try.prog W base spare held fuel 24 cs = some x) :
    ∃ s : Sup, cs = (supC s).toList ∧ s.gen < 18446744073709551616 ∧ s.seq < 18446744073709551616 ∧ i64B s.root ∧ i64B s.jn ∧ i64B s.live := by
  obtain ⟨xs, n, rfl, rfl, hl, hx, hf⟩ := DataW.trod_struct Try.underlying24 h
  rw [ocells24] at hl
  have hx5 : xs.length = 5 := hx
  match xs, hx5, cs, hl with
  | [y0, y1, y2, y3, y4], _, [v0, v1, v2, v3, v4], _ =>
    have g0 : DataW.trod enc Try.prog W base spare held n 22 [v0] = some y0 := by simpa [ocells22] using hf 0 _ rfl
    have g1 : DataW.trod enc Try.prog W base spare held n 3 [v1] = some y1 := by simpa [ocells22, ocells3] using hf 1 _ rfl
    have g2 : DataW.trod enc Try.prog W base spare held n 22 [v2] = some y2 := by simpa [ocells22, ocells3] using hf 2 _ rfl
    have g3 : DataW.trod enc Try.prog W base spare held n 3 [v3] = some y3 := by simpa [ocells22, ocells3] using hf 3 _ rfl
    have g4 : DataW.trod enc Try.prog W base spare held n 3 [v4] = some y4 := by simpa [ocells22, ocells3] using hf 4 _ rfl
    obtain ⟨n0, e0, _, w0⟩ := DataW.trod_int Try.underlying22 g0
    obtain ⟨n1, e1, _, w1⟩ := DataW.trod_int Try.underlying3 g1
    obtain ⟨n2, e2, _, w2⟩ := DataW.trod_int Try.underlying22 g2
    obtain ⟨n3, e3, _, w3⟩ := DataW.trod_int Try.underlying3 g3
    obtain ⟨n4, e4, _, w4⟩ := DataW.trod_int Try.underlying3 g4
    have b0 := wf_u64 w0
    have b2 := wf_u64 w2
    cases e0; cases e1; cases e2; cases e3; cases e4
    refine ⟨⟨n0.toNat, n1, n2.toNat, n3, n4⟩, ?_, by simp only []; omega, by simp only []; omega, wf_i64 w1, wf_i64 w3, wf_i64 w4⟩
    simp only [supC]
    rw [Int.toNat_of_nonneg b0.1, Int.toNat_of_nonneg b2.1]
end
theorem obytes3 : Try.prog.bytesOf 3 = 8 := by kernel_rfl
theorem sl_weight46 {H : Type} {enc : TypeId × Value → H} {W : World} {base : Nat} {held : Bool} {fuel : Nat} {cs : List Value} {x : DataW H × List MemPlace} (h : DataW.trod enc Try.prog W base (fun _ => true) held fuel 46 cs = some x) (hw : ∀ n ∈ x.1.weights Try.prog 46, n ≤ reachBytes) {a : Option Addr} {len cap : Nat} (hcs : cs = [.slice a len cap]) : len ≤ 140737488355328 := by
  rcases open_slice Try.underlying46 h with ⟨rfl, _⟩ | ⟨a', len', cap', m, n, D, Pl, rfl, hb, hl, hm, hmm, rfl, hx⟩
  · cases hcs
    exact Nat.zero_le _
  · cases hcs
    have hlm : len ≤ m := by rw [hmm]; split <;> omega
    simp only [DataW.weights, Try.underlying46] at hw
    have hw1 := hw _ (List.mem_cons_self ..)
    rw [obytes3] at hw1
    simp only [List.length_map, List.length_range, reachBytes] at hw1
    omega
theorem obytes25 : Try.prog.bytesOf 25 = 24 := by kernel_rfl
theorem sl_weight56 {H : Type} {enc : TypeId × Value → H} {W : World} {base : Nat} {held : Bool} {fuel : Nat} {cs : List Value} {x : DataW H × List MemPlace} (h : DataW.trod enc Try.prog W base (fun _ => true) held fuel 56 cs = some x) (hw : ∀ n ∈ x.1.weights Try.prog 56, n ≤ reachBytes) {a : Option Addr} {len cap : Nat} (hcs : cs = [.slice a len cap]) : len ≤ 140737488355328 := by
  rcases open_slice Try.underlying56 h with ⟨rfl, _⟩ | ⟨a', len', cap', m, n, D, Pl, rfl, hb, hl, hm, hmm, rfl, hx⟩
  · cases hcs
    exact Nat.zero_le _
  · cases hcs
    have hlm : len ≤ m := by rw [hmm]; split <;> omega
    simp only [DataW.weights, Try.underlying56] at hw
    have hw1 := hw _ (List.mem_cons_self ..)
    rw [obytes25] at hw1
    simp only [List.length_map, List.length_range, reachBytes] at hw1
    omega
end Go.Proofs.Ytecmfpgccmmlpaa

/- entries that are handed in -/
import Derived.Test.YtnimlpbalfamcaaP
import Derived.Test.YtnimlpbalfamcaaQ
namespace Go.Proofs.Ytnimlpbalfamcaa
open Go.RowKit Go.ChangeShapes Go.WideShapes Go.Deep Cod
theorem isB_of_some {w : World} {x : Addr} {len cap : Nat} {zs : List Int} (hl : len ≤ cap) (hm : cap ≤ maxLen) (hz : len ≤ zs.length) (hcell : ∀ i, i < zs.length → w.cell? (x.add i) = some (.int .u8 (zs.getD i 0)))
    (hwz : ∀ n ∈ zs, (Lit.int .u8 n).wf = true) (hlt : ∀ b off, x = ⟨b, off, none⟩ → ∀ i, i < len → b < w.heap.size) : IsB w (some x) len cap ((zs.take len).map Int.toNat) := by
  refine ⟨by simp; omega, hl, hm, ?_, ?_⟩
  · intro y hy
    simp only [List.mem_map] at hy
    obtain ⟨n, hn, rfl⟩ := hy
    have := bounds_u8 (hwz n (List.mem_of_mem_take hn))
    omega
  · by_cases h0 : len = 0
    · exact .inl ⟨h0, by intro h; cases h⟩
    · obtain ⟨b, off, spot⟩ := x
      have hspot : spot = none := by
        have := World.cell?_spot (hcell 0 (by omega))
        simpa [Addr.add] using this
      subst hspot
      refine .inr ⟨b, off, rfl, hlt b off rfl 0 (by omega), fun i hi => ?_⟩
      have hc := hcell i (by omega)
      rw [addr_add] at hc
      rw [hc]
      have hi' : i < zs.length := by omega
      have hb := bounds_u8 (hwz zs[i] (List.getElem_mem hi'))
      have e : ((zs.take len).map Int.toNat).getD i 0 = (zs[i]).toNat := by
        simp [List.getD_eq_getElem?_getD, hi, List.getElem?_eq_getElem hi']
      rw [e, List.getD_eq_getElem?_getD, List.getElem?_eq_getElem hi']
      simp only [Option.getD_some]
      rw [Int.toNat_of_nonneg hb.1]
theorem bulk_one {H : Type} (d : DataW H) : 1 ≤ Rows.uptoBulk d := by
  cases d with
  | lit l => cases l <;> simp [Rows.uptoBulk]
  | nil => simp [Rows.uptoBulk]
  | ptr d => simp [Rows.uptoBulk]
  | slice elems spare => simp [Rows.uptoBulk]
  | agg parts => simp [Rows.uptoBulk]
  | iface t d => simp [Rows.uptoBulk]
  | map entries => simp [Rows.uptoBulk]
  | held h => simp [Rows.uptoBulk]
theorem bulk_len {H : Type} (l : List (DataW H)) : l.length ≤ Rows.uptoBulkAll l := by
  induction l with
  | nil => simp [Rows.uptoBulkAll]
  | cons x r ih => have := bulk_one x; simp only [Rows.uptoBulkAll, List.length_cons]; omega
section
variable {H : Type} {enc : TypeId × Value → H} {W : World} {base : Nat} {spare : Nat → Bool} {held : Bool}
/-- bytes within what is handed in -/
theorem open_bytes {fuel : Nat} {cs : List Value} {x : DataW H × List MemPlace} (h : DataW.trod enc Try.prog W base spare held fuel 22 cs = some x) (hlt : ∀ p ∈ x.2, p.block < W.heap.size) :
    ∃ a cap l, cs = [.slice a l.length cap] ∧ IsB W a l.length cap l ∧ l.length ≤ Rows.uptoBulk x.1 := by
  rcases open_ints Try.underlying22 Try.underlying5 (by kernel_rfl) h with ⟨rfl, _⟩ | ⟨y, len, cap, zs, rfl, _, hl, hm, hz, rfl, hcell, hwz⟩
  · exact ⟨none, 0, [], rfl, isB_nil W, Nat.zero_le _⟩
  · have hz' : len ≤ zs.length := by rw [hz]; split <;> omega
    have hI := isB_of_some hl hm hz' hcell hwz (fun b off hb0 i hi => hlt (.cell b off) (by subst hb0; exact MemPlace.mem_row.2 ⟨0, by omega, by simp⟩))
    have hlen := hI.1
    refine ⟨some y, cap, (zs.take len).map Int.toNat, by rw [hlen], by rw [hlen]; exact hI, ?_⟩
    have h1 := bulk_len (lits (H := H) .u8 (zs.take len))
    have h2 : (lits (H := H) .u8 (zs.take len)).length = len := by simp [lits]; omega
    rw [hlen]
    simp only [Rows.uptoBulk]
    omega
/-- one entry, of its two cells -/
theorem open_ent {fuel : Nat} {cs : List Value} {x : DataW H × List MemPlace} (h : DataW.trod enc Try.prog W base spare held fuel 78 cs = some x) (hlt : ∀ p ∈ x.2, p.block < W.heap.size) :
    ∃ (e : Ent) (ka : Option Addr) (kc : Nat) (va : Option Addr) (vc : Nat), cs = [.slice ka e.1.length kc, .slice va e.2.length vc] ∧ IsB W ka e.1.length kc e.1 ∧ IsB W va e.2.length vc e.2 ∧ e.1.length + e.2.length ≤ Rows.uptoBulk x.1 := by
  obtain ⟨xs, n, rfl, rfl, hl, hx, hf⟩ := DataW.trod_struct Try.underlying78 h
  rw [cells78] at hl
  have hx2 : xs.length = 2 := hx
  match xs, hx2, cs, hl with
  | [y0, y1], _, [v0, v1], _ =>
    have g0 : DataW.trod enc Try.prog W base spare held n 22 [v0] = some y0 := by simpa [cells22] using hf 0 _ rfl
    have g1 : DataW.trod enc Try.prog W base spare held n 22 [v1] = some y1 := by simpa [cells22] using hf 1 _ rfl
    obtain ⟨ka, kc, k, e0, b0, l0⟩ := open_bytes g0 (fun p hp => hlt p (by simp [hp]))
    obtain ⟨va, vc, v, e1, b1, l1⟩ := open_bytes g1 (fun p hp => hlt p (by simp [hp]))
    cases e0; cases e1
    refine ⟨(k, v), ka, kc, va, vc, rfl, b0, b1, ?_⟩
    simp only [List.map_cons, List.map_nil, Rows.uptoBulk, Rows.uptoBulkAll]
    omega
/-- a slice of entries, opened -/
theorem open_ents {fuel : Nat} {cs : List Value} {x : DataW H × List MemPlace} (h : DataW.trod enc Try.prog W base spare held fuel 45 cs = some x) (hlt : ∀ p ∈ x.2, p.block < W.heap.size) :
    ∃ a len cap l, cs = [.slice a len cap] ∧ IsE W a len cap l ∧ ∀ p ∈ l, p.1.length + p.2.length ≤ Rows.uptoBulk x.1 := by
  rcases open_slice Try.underlying45 h with ⟨rfl, _⟩ | ⟨a, len, cap, m, n, D, Pl, rfl, hb, hl, hm, hmm, rfl, hx⟩
  · exact ⟨none, 0, 0, [], rfl, ⟨rfl, Nat.le_refl _, Nat.zero_le _, .inl ⟨rfl, fun _ => rfl⟩⟩, by simp⟩
  · have hlm : len ≤ m := by rw [hmm]; split <;> omega
    have each : ∀ i, i < len → ∃ e : Ent, (∃ ka kc va vc, W.cell? (a.add (i * 2)) = some (.slice ka e.1.length kc) ∧ W.cell? (a.add (i * 2 + 1)) = some (.slice va e.2.length vc) ∧ IsB W ka e.1.length kc e.1 ∧ IsB W va e.2.length vc e.2) ∧ e.1.length + e.2.length ≤ Rows.uptoBulk (D i) := by
      intro i hi
      obtain ⟨cs', h1, h2⟩ := hx i (by omega)
      rw [cells78] at h1
      obtain ⟨e, ka, kc, va, vc, rfl, b0, b1, hbk⟩ := open_ent h2 (fun p hp => hlt p (List.mem_append_right _ (List.mem_flatMap.2 ⟨i, List.mem_range.2 (by omega), hp⟩)))
      obtain ⟨_, _, hcell⟩ := World.cells?_some h1
      have e0 := hcell 0 (by omega)
      have e1 := hcell 1 (by omega)
      rw [add_add'] at e0 e1
      exact ⟨e, ⟨ka, kc, va, vc, by simpa using e0, by simpa using e1, b0, b1⟩, hbk⟩
    obtain ⟨f, hf⟩ := choose_lt' ([], []) each
    refine ⟨some a, len, cap, (List.range len).map f, rfl, ⟨by simp, hl, hm, ?_⟩, ?_⟩
    · by_cases h0 : len = 0
      · exact .inl ⟨h0, by intro h; cases h⟩
      · obtain ⟨b, off, spot⟩ := a
        have hspot : spot = none := by
          obtain ⟨⟨_, _, _, _, h1, _⟩, _⟩ := hf 0 (by omega)
          have := World.cell?_spot h1
          simpa [Addr.add] using this
        subst hspot
        refine .inr ⟨b, off, rfl, ?_, fun i e he => ?_⟩
        · refine hlt (.cell b off) (List.mem_append_left _ ?_)
          exact MemPlace.mem_row.2 ⟨0, by rw [cells78]; omega, by simp⟩
        · have hi : i < len := by
            have := (List.getElem?_eq_some_iff.1 he).1; simpa using this
          have hg : e = f i := by simp [hi] at he; exact he.symm
          rw [hg]
          obtain ⟨⟨ka, kc, va, vc, c0, c1, b0, b1⟩, _⟩ := hf i hi
          rw [addr_add] at c0 c1
          exact ⟨ka, kc, va, vc, c0, by rw [Nat.add_assoc]; exact c1, b0, b1⟩
    · intro p hp
      obtain ⟨i, hi, rfl⟩ := List.mem_map.1 hp
      have h1 := (hf i (List.mem_range.1 hi)).2
      have h2 : Rows.uptoBulk (D i) ≤ Rows.uptoBulkAll ((List.range len).map D) := bulk_mem (List.mem_map.2 ⟨i, hi, rfl⟩)
      simp only [Rows.uptoBulk]
      omega
end
end Go.Proofs.Ytnimlpbalfamcaa

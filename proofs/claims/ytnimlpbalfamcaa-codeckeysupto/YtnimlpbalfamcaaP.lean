/- parts and entries that are handed in -/
import Derived.Test.YtnimlpbalfamcaaG
import Derived.Deep.Slices
import Derived.ChangeSame
namespace Go.Proofs.Ytnimlpbalfamcaa
open Go.RowKit Go.ChangeShapes Go.WideShapes Go.Deep Cod
theorem cells60 : Try.prog.cellsOf 60 = 3 := by kernel_rfl
theorem cells78 : Try.prog.cellsOf 78 = 2 := by kernel_rfl
theorem cells58 : Try.prog.cellsOf 58 = 1 := by kernel_rfl
theorem cells23 : Try.prog.cellsOf 23 = 1 := by kernel_rfl
theorem cells9 : Try.prog.cellsOf 9 = 1 := by kernel_rfl
theorem cells22 : Try.prog.cellsOf 22 = 1 := by kernel_rfl
theorem add_add' (a : Addr) (i j : Nat) : (a.add i).add j = a.add (i + j) := by
  cases a with
  | mk b off sp => by_cases hi : i = 0 <;> by_cases hj : j = 0 <;> simp [Addr.add, hi, hj] <;> omega
theorem choose_lt' {α : Type} (d : α) {n : Nat} {Pr : Nat → α → Prop} (h : ∀ i, i < n → ∃ x, Pr i x) : ∃ f : Nat → α, ∀ i, i < n → Pr i (f i) :=
  ⟨fun i => if hi : i < n then Classical.choose (h i hi) else d, fun i hi => by simp only [dif_pos hi]; exact Classical.choose_spec (h i hi)⟩
theorem bulk_mem {H : Type} {l : List (DataW H)} {d : DataW H} (h : d ∈ l) : Rows.uptoBulk d ≤ Rows.uptoBulkAll l := by
  induction l with
  | nil => cases h
  | cons x r ih =>
    simp only [Rows.uptoBulkAll]
    rcases List.mem_cons.1 h with rfl | h
    · omega
    · have := ih h; omega
section
variable {H : Type} {enc : TypeId × Value → H} {W : World} {base : Nat} {spare : Nat → Bool} {held : Bool}
/-- one part, of its three cells -/
theorem open_part {fuel : Nat} {cs : List Value} {x : DataW H × List MemPlace} (h : DataW.trod enc Try.prog W base spare held fuel 60 cs = some x) :
    ∃ p : Part, cs = [.int .u8 (p.k : Nat), .int .u64 (p.n : Nat), .string (str p.s)] ∧ okP p ∧ p.s.length ≤ Rows.uptoBulk x.1 := by
  obtain ⟨xs, n, rfl, rfl, hl, hx, hf⟩ := DataW.trod_struct Try.underlying60 h
  rw [cells60] at hl
  have hx3 : xs.length = 3 := hx
  match xs, hx3, cs, hl with
  | [y0, y1, y2], _, [v0, v1, v2], _ =>
    have g0 : DataW.trod enc Try.prog W base spare held n 58 [v0] = some y0 := by simpa [cells58] using hf 0 _ rfl
    have g1 : DataW.trod enc Try.prog W base spare held n 23 [v1] = some y1 := by simpa [cells23] using hf 1 _ rfl
    have g2 : DataW.trod enc Try.prog W base spare held n 9 [v2] = some y2 := by simpa [cells9] using hf 2 _ rfl
    obtain ⟨n0, e0, _, w0⟩ := DataW.trod_int Try.underlying58 g0
    obtain ⟨n1, e1, _, w1⟩ := DataW.trod_int Try.underlying23 g1
    obtain ⟨s, e2, e2', _⟩ := DataW.trod_string Try.underlying9 g2
    cases e0; cases e1; cases e2
    have b0 := bounds_u8 w0
    have b1 := bounds_u64 w1
    obtain ⟨n0, rfl⟩ := Int.eq_ofNat_of_zero_le b0.1
    obtain ⟨n1, rfl⟩ := Int.eq_ofNat_of_zero_le b1.1
    refine ⟨⟨n0, n1, bl s⟩, by simp [str_bl], ⟨by simp only; omega, by simp only; omega, bl_lt s⟩, ?_⟩
    rw [e2']
    simp only [List.map_cons, List.map_nil, Rows.uptoBulk, Rows.uptoBulkAll, bl_length]
    have e : s.size = s.data.toList.length := by rw [Array.length_toList]; rfl
    omega
/-- a slice of parts, opened -/
theorem open_parts {fuel : Nat} {cs : List Value} {x : DataW H × List MemPlace} (h : DataW.trod enc Try.prog W base spare held fuel 38 cs = some x) (hlt : ∀ p ∈ x.2, p.block < W.heap.size) :
    ∃ a len cap l, cs = [.slice a len cap] ∧ IsP W a len cap l ∧ ∀ p ∈ l, p.s.length ≤ Rows.uptoBulk x.1 := by
  rcases open_slice Try.underlying38 h with ⟨rfl, _⟩ | ⟨a, len, cap, m, n, D, Pl, rfl, hb, hl, hm, hmm, rfl, hx⟩
  · exact ⟨none, 0, 0, [], rfl, ⟨rfl, Nat.le_refl _, Nat.zero_le _, by simp, .inl ⟨rfl, fun _ => rfl⟩⟩, by simp⟩
  · have hlm : len ≤ m := by rw [hmm]; split <;> omega
    have each : ∀ i, i < len → ∃ p : Part, (W.cell? (a.add (i * 3)) = some (.int .u8 (p.k : Nat)) ∧ W.cell? (a.add (i * 3 + 1)) = some (.int .u64 (p.n : Nat)) ∧ W.cell? (a.add (i * 3 + 2)) = some (.string (str p.s))) ∧ okP p ∧ p.s.length ≤ Rows.uptoBulk (D i) := by
      intro i hi
      obtain ⟨cs', h1, h2⟩ := hx i (by omega)
      rw [cells60] at h1
      obtain ⟨p, rfl, hp, hbk⟩ := open_part h2
      obtain ⟨_, _, hcell⟩ := World.cells?_some h1
      have e0 := hcell 0 (by omega)
      have e1 := hcell 1 (by omega)
      have e2 := hcell 2 (by omega)
      rw [add_add'] at e0 e1 e2
      exact ⟨p, ⟨by simpa using e0, by simpa using e1, by simpa using e2⟩, hp, hbk⟩
    obtain ⟨f, hf⟩ := choose_lt' ⟨0, 0, []⟩ each
    refine ⟨some a, len, cap, (List.range len).map f, rfl, ⟨by simp, hl, hm, ?_, ?_⟩, ?_⟩
    · intro y hy
      obtain ⟨i, hi, rfl⟩ := List.mem_map.1 hy
      exact (hf i (List.mem_range.1 hi)).2.1
    · by_cases h0 : len = 0
      · exact .inl ⟨h0, by intro h; cases h⟩
      · obtain ⟨b, off, spot⟩ := a
        have hspot : spot = none := by
          have := World.cell?_spot (hf 0 (by omega)).1.1
          simpa [Addr.add] using this
        subst hspot
        refine .inr ⟨b, off, rfl, ?_, fun i p hp => ?_⟩
        · refine hlt (.cell b off) (List.mem_append_left _ ?_)
          exact MemPlace.mem_row.2 ⟨0, by rw [cells60]; omega, by simp⟩
        · have hi : i < len := by
            have := (List.getElem?_eq_some_iff.1 hp).1; simpa using this
          have hg : p = f i := by simp [hi] at hp; exact hp.symm
          rw [hg]
          obtain ⟨c0, c1, c2⟩ := (hf i hi).1
          rw [addr_add] at c0 c1 c2
          exact ⟨c0, by rw [Nat.add_assoc]; exact c1, by rw [Nat.add_assoc]; exact c2⟩
    · intro p hp
      obtain ⟨i, hi, rfl⟩ := List.mem_map.1 hp
      have h1 := (hf i (List.mem_range.1 hi)).2.2
      have h2 : Rows.uptoBulk (D i) ≤ Rows.uptoBulkAll ((List.range len).map D) := bulk_mem (List.mem_map.2 ⟨i, hi, rfl⟩)
      simp only [Rows.uptoBulk]
      omega
end
end Go.Proofs.Ytnimlpbalfamcaa

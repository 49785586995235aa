/- steps that are handed in, with the sizes of their data -/
import Derived.Test.YtdageggojaghmaaCx
namespace Go.Proofs.Ytdageggojaghmaa
open Go.RowKit Go.ChangeShapes Go.WideShapes Go.Deep
section
variable {H : Type} {enc : TypeId × Value → H} {W : World} {base : Nat} {spare : Nat → Bool} {held : Bool}
theorem weightsAll_mem {P : Program} {e : TypeId} : ∀ {ds : List (DataW H)} {d : DataW H} {n : Nat}, d ∈ ds → n ∈ d.weights P e → n ∈ DataW.weightsAll P e ds
  | [], _, _, h, _ => by cases h
  | d' :: r, d, n, h, hn => by
    rw [DataW.weightsAll]
    rcases List.mem_cons.1 h with rfl | h
    · exact List.mem_append_left _ hn
    · exact List.mem_append_right _ (weightsAll_mem h hn)
theorem open_bytes_w {fuel : Nat} {cs : List Value} {x : DataW H × List MemPlace} (h : DataW.trod enc Try.prog W base spare held fuel 32 cs = some x) (hlt : ∀ p ∈ x.2, p.block < W.heap.size) (hw : ∀ n ∈ x.1.weights Try.prog 32, n ≤ reachBytes) :
    ∃ a len cap l, cs = [.slice a len cap] ∧ IsB W a len cap l ∧ len ≤ reachBytes := by
  obtain ⟨a, len, cap, l, rfl, hB⟩ := open_bytes h hlt
  refine ⟨a, len, cap, l, rfl, hB, ?_⟩
  rcases open_slice Try.underlying32 h with ⟨e, _⟩ | ⟨a', len', cap', m, n, D, Pl, e, hb, hl, hm, hmm, rfl, hx⟩
  · simp at e; omega
  · simp at e
    obtain ⟨_, rfl, _⟩ := e
    have hlm : len ≤ m := by rw [hmm]; split <;> omega
    simp only [DataW.weights, Try.underlying32] at hw
    have hw1 := hw _ (List.mem_cons_self ..)
    rw [show Try.prog.bytesOf 5 = 1 by kernel_rfl] at hw1
    simp only [List.length_map, List.length_range] at hw1
    omega
set_option maxRecDepth 40000 in
theorem open_stp_w {fuel : Nat} {cs : List Value} {x : DataW H × List MemPlace} (h : DataW.trod enc Try.prog W base spare held fuel 35 cs = some x) (hlt : ∀ p ∈ x.2, p.block < W.heap.size) (hw : ∀ n ∈ x.1.weights Try.prog 35, n ≤ reachBytes) :
    ∃ (s : Stp) (c0 c1 c2 c3 c4 : Value), cs = [c0, c1, c2, c3, c4] ∧ IsS W c0 c1 c2 c3 c4 s ∧ s.dat.length ≤ reachBytes := by
  obtain ⟨xs, n, rfl, rfl, hl, hx, hf⟩ := DataW.trod_struct Try.underlying35 h
  rw [cells35] at hl
  have hx5 : xs.length = 5 := hx
  match xs, hx5, cs, hl with
  | [y0, y1, y2, y3, y4], _, [v0, v1, v2, v3, v4], _ =>
    have g0 : DataW.trod enc Try.prog W base spare held n 31 [v0] = some y0 := by simpa [cells31] using hf 0 _ rfl
    have g1 : DataW.trod enc Try.prog W base spare held n 3 [v1] = some y1 := by simpa [cells3] using hf 1 _ rfl
    have g2 : DataW.trod enc Try.prog W base spare held n 32 [v2] = some y2 := by simpa [cells32] using hf 2 _ rfl
    have g3 : DataW.trod enc Try.prog W base spare held n 3 [v3] = some y3 := by simpa [cells3] using hf 3 _ rfl
    have g4 : DataW.trod enc Try.prog W base spare held n 33 [v4] = some y4 := by simpa [cells33] using hf 4 _ rfl
    obtain ⟨n0, e0, _, w0⟩ := DataW.trod_int Try.underlying31 g0
    obtain ⟨n1, e1, _, w1⟩ := DataW.trod_int Try.underlying3 g1
    obtain ⟨n3, e3, _, w3⟩ := DataW.trod_int Try.underlying3 g3
    obtain ⟨a, len, cap, l, e2, hB, hwb⟩ := open_bytes_w g2 (fun p hp => hlt p (by simp [hp])) (fun m hm => hw m (by simp only [DataW.weights, Try.underlying35, List.map_cons, List.map_nil, DataW.weightsEach]; simp [hm]))
    obtain ⟨a', len', cap', l', e4, hF⟩ := open_fates g4 (fun p hp => hlt p (by simp [hp]))
    have b0 := bounds_u8 w0
    have b3 : n3 ≤ 9223372036854775807 := by simp [Lit.wf] at w3; exact w3.2
    cases e0; cases e1; cases e2; cases e3; cases e4
    refine ⟨⟨n0.toNat, n1, l, n3, l'⟩, _, _, _, _, _, rfl, ⟨?_, rfl, rfl, by simp only []; omega, b3, ⟨_, _, _, rfl, hB⟩, _, _, _, rfl, hF⟩, by simp only []; rw [hB.1]; exact hwb⟩
    simp only []
    rw [Int.toNat_of_nonneg b0.1]
theorem open_steps_w {fuel : Nat} {cs : List Value} {x : DataW H × List MemPlace} (h : DataW.trod enc Try.prog W base spare held fuel 22 cs = some x) (hlt : ∀ p ∈ x.2, p.block < W.heap.size) (hw : ∀ n ∈ x.1.weights Try.prog 22, n ≤ reachBytes) :
    ∃ a len cap l, cs = [.slice a len cap] ∧ IsSS W a len cap l ∧ ∀ i, i < len → (l.getD i Stp0).dat.length ≤ reachBytes := by
  rcases open_slice Try.underlying22 h with ⟨rfl, _⟩ | ⟨a, len, cap, m, n, D, Pl, rfl, hb, hl, hm, hmm, rfl, hx⟩
  · exact ⟨none, 0, 0, [], rfl, ⟨rfl, Nat.le_refl _, Nat.zero_le _, Nat.zero_le _, fun i hi => by omega⟩, fun i hi => by omega⟩
  · have hlm : len ≤ m := by rw [hmm]; split <;> omega
    simp only [DataW.weights, Try.underlying22] at hw
    have hw1 := hw _ (List.mem_cons_self ..)
    rw [bytes35] at hw1
    simp only [List.length_map, List.length_range] at hw1
    have hwe : ∀ i, i < len → ∀ v ∈ (D i).weights Try.prog 35, v ≤ reachBytes := by
      intro i hi v hv
      exact hw v (List.mem_cons_of_mem _ (List.mem_append_left _ (weightsAll_mem (List.mem_map.2 ⟨i, List.mem_range.2 hi, rfl⟩) hv)))
    have each : ∀ i, i < len → ∃ s : Stp, ∃ c0 c1 c2 c3 c4, W.cell? (a.add (i * 5)) = some c0 ∧ W.cell? (a.add (i * 5 + 1)) = some c1 ∧ W.cell? (a.add (i * 5 + 2)) = some c2 ∧ W.cell? (a.add (i * 5 + 3)) = some c3 ∧ W.cell? (a.add (i * 5 + 4)) = some c4 ∧ IsS W c0 c1 c2 c3 c4 s ∧ s.dat.length ≤ reachBytes := by
      intro i hi
      obtain ⟨cs', h1, h2⟩ := hx i (by omega)
      rw [cells35] at h1
      obtain ⟨s, c0, c1, c2, c3, c4, rfl, hs⟩ := open_stp_w h2 (fun p hp => hlt p (List.mem_append_right _ (List.mem_flatMap.2 ⟨i, List.mem_range.2 (by omega), hp⟩))) (fun v hv => hwe i (by omega) v hv)
      obtain ⟨_, _, hcell⟩ := World.cells?_some h1
      have e0 := hcell 0 (by omega)
      have e1 := hcell 1 (by omega)
      have e2 := hcell 2 (by omega)
      have e3 := hcell 3 (by omega)
      have e4 := hcell 4 (by omega)
      rw [add_add'] at e0 e1 e2 e3 e4
      exact ⟨s, c0, c1, c2, c3, c4, by simpa using e0, by simpa using e1, by simpa using e2, by simpa using e3, by simpa using e4, hs⟩
    obtain ⟨f, hf⟩ := choose_lt' Stp0 each
    refine ⟨some a, len, cap, (List.range len).map f, rfl, ⟨by simp, hl, hm, by omega, fun i hi => ?_⟩, fun i hi => ?_⟩
    rotate_left
    · have hg : ((List.range len).map f).getD i Stp0 = f i := by simp [List.getD_eq_getElem?_getD, hi]
      rw [hg]
      obtain ⟨_, _, _, _, _, _, _, _, _, _, _, hs⟩ := hf i hi
      exact hs
    obtain ⟨b, off, spot⟩ := a
    have hspot : spot = none := by
      obtain ⟨c0, _, _, _, _, h1, _⟩ := hf 0 (by omega)
      have := World.cell?_spot h1
      simpa [Addr.add] using this
    subst hspot
    have hg : ((List.range len).map f).getD i Stp0 = f i := by simp [List.getD_eq_getElem?_getD, hi]
    rw [hg]
    obtain ⟨c0, c1, c2, c3, c4, e0, e1, e2, e3, e4, hs, _⟩ := hf i hi
    rw [addr_add] at e0 e1 e2 e3 e4
    refine ⟨b, off, c0, c1, c2, c3, c4, rfl, ?_, e0, by rw [Nat.add_assoc]; exact e1, by rw [Nat.add_assoc]; exact e2, by rw [Nat.add_assoc]; exact e3, by rw [Nat.add_assoc]; exact e4, hs⟩
    refine hlt (.cell b off) (List.mem_append_left _ ?_)
    exact MemPlace.mem_row.2 ⟨0, by rw [cells35]; omega, by simp⟩
end
end Go.Proofs.Ytdageggojaghmaa

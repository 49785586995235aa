/- entries that are handed in, and how much each may weigh -/
import Derived.Test.YtnimlpbalfamcaaP2
import Derived.SizedLaws
namespace Go.Proofs.Ytnimlpbalfamcaa
open Go.RowKit Go.ChangeShapes Go.WideShapes Go.Deep Cod
theorem bytes5 : Try.prog.bytesOf 5 = 1 := by kernel_rfl
theorem bytes78 : Try.prog.bytesOf 78 = 48 := by kernel_rfl
theorem weightsAll_mem {H : Type} {P : Program} {e : TypeId} {l : List (DataW H)} {d : DataW H} (h : d ∈ l) : ∀ n ∈ d.weights P e, n ∈ DataW.weightsAll P e l := by
  induction l with
  | nil => cases h
  | cons x r ih =>
    intro n hn
    simp only [DataW.weightsAll, List.mem_append]
    rcases List.mem_cons.1 h with rfl | h
    · exact .inl hn
    · exact .inr (ih h n hn)
section
variable {H : Type} {enc : TypeId × Value → H} {W : World} {base : Nat} {spare : Nat → Bool} {held : Bool}
theorem open_bytes_w {fuel : Nat} {cs : List Value} {x : DataW H × List MemPlace} (h : DataW.trod enc Try.prog W base spare held fuel 22 cs = some x) (hlt : ∀ p ∈ x.2, p.block < W.heap.size) (hw : ∀ n ∈ x.1.weights Try.prog 22, n ≤ reachBytes) :
    ∃ a cap l, cs = [.slice a l.length cap] ∧ IsB W a l.length cap l ∧ l.length ≤ reachBytes := by
  rcases open_ints Try.underlying22 Try.underlying5 (by kernel_rfl) h with ⟨rfl, _⟩ | ⟨y, len, cap, zs, rfl, _, hl, hm, hz, rfl, hcell, hwz⟩
  · exact ⟨none, 0, [], rfl, isB_nil W, Nat.zero_le _⟩
  · have hz' : len ≤ zs.length := by rw [hz]; split <;> omega
    have hI := isB_of_some hl hm hz' hcell hwz (fun b off hb0 i hi => hlt (.cell b off) (by subst hb0; exact MemPlace.mem_row.2 ⟨0, by omega, by simp⟩))
    have hlen := hI.1
    refine ⟨some y, cap, (zs.take len).map Int.toNat, by rw [hlen], by rw [hlen]; exact hI, ?_⟩
    rw [hlen]
    simp only [DataW.weights, Try.underlying22] at hw
    have := hw _ (List.mem_cons_self ..)
    rw [bytes5] at this
    simp only [lits, List.length_map, List.length_take] at this
    omega
theorem open_ent_w {fuel : Nat} {cs : List Value} {x : DataW H × List MemPlace} (h : DataW.trod enc Try.prog W base spare held fuel 78 cs = some x) (hlt : ∀ p ∈ x.2, p.block < W.heap.size) (hw : ∀ n ∈ x.1.weights Try.prog 78, n ≤ reachBytes) :
    ∃ (e : Ent) (ka : Option Addr) (kc : Nat) (va : Option Addr) (vc : Nat), cs = [.slice ka e.1.length kc, .slice va e.2.length vc] ∧ IsB W ka e.1.length kc e.1 ∧ IsB W va e.2.length vc e.2 ∧ e.1.length ≤ reachBytes ∧ e.2.length ≤ reachBytes := by
  obtain ⟨xs, n, rfl, rfl, hl, hx, hf⟩ := DataW.trod_struct Try.underlying78 h
  rw [cells78] at hl
  have hx2 : xs.length = 2 := hx
  match xs, hx2, cs, hl with
  | [y0, y1], _, [v0, v1], _ =>
    have g0 : DataW.trod enc Try.prog W base spare held n 22 [v0] = some y0 := by simpa [cells22] using hf 0 _ rfl
    have g1 : DataW.trod enc Try.prog W base spare held n 22 [v1] = some y1 := by simpa [cells22] using hf 1 _ rfl
    simp only [DataW.weights, Try.underlying78, List.map_cons, List.map_nil] at hw
    have hw2 : ∀ n ∈ y0.1.weights Try.prog 22 ++ (y1.1.weights Try.prog 22 ++ []), n ≤ reachBytes := hw
    obtain ⟨ka, kc, k, e0, b0, l0⟩ := open_bytes_w g0 (fun p hp => hlt p (by simp [hp])) (fun n hn => hw2 n (by simp [hn]))
    obtain ⟨va, vc, v, e1, b1, l1⟩ := open_bytes_w g1 (fun p hp => hlt p (by simp [hp])) (fun n hn => hw2 n (by simp [hn]))
    cases e0; cases e1
    exact ⟨(k, v), ka, kc, va, vc, rfl, b0, b1, l0, l1⟩
theorem open_ents_w {fuel : Nat} {cs : List Value} {x : DataW H × List MemPlace} (h : DataW.trod enc Try.prog W base spare held fuel 45 cs = some x) (hlt : ∀ p ∈ x.2, p.block < W.heap.size) (hw : ∀ n ∈ x.1.weights Try.prog 45, n ≤ reachBytes) :
    ∃ a len cap l, cs = [.slice a len cap] ∧ IsE W a len cap l ∧ len * 48 ≤ reachBytes ∧ ∀ p ∈ l, p.1.length ≤ reachBytes ∧ p.2.length ≤ reachBytes := by
  rcases open_slice Try.underlying45 h with ⟨rfl, _⟩ | ⟨a, len, cap, m, n, D, Pl, rfl, hb, hl, hm, hmm, rfl, hx⟩
  · exact ⟨none, 0, 0, [], rfl, ⟨rfl, Nat.le_refl _, Nat.zero_le _, .inl ⟨rfl, fun _ => rfl⟩⟩, Nat.zero_le _, by simp⟩
  · have hlm : len ≤ m := by rw [hmm]; split <;> omega
    simp only [DataW.weights, Try.underlying45] at hw
    have hw1 := hw _ (List.mem_cons_self ..)
    rw [bytes78] at hw1
    simp only [List.length_map, List.length_range] at hw1
    have each : ∀ i, i < len → ∃ e : Ent, (∃ ka kc va vc, W.cell? (a.add (i * 2)) = some (.slice ka e.1.length kc) ∧ W.cell? (a.add (i * 2 + 1)) = some (.slice va e.2.length vc) ∧ IsB W ka e.1.length kc e.1 ∧ IsB W va e.2.length vc e.2) ∧ e.1.length ≤ reachBytes ∧ e.2.length ≤ reachBytes := by
      intro i hi
      obtain ⟨cs', h1, h2⟩ := hx i (by omega)
      rw [cells78] at h1
      obtain ⟨e, ka, kc, va, vc, rfl, b0, b1, hbk⟩ := open_ent_w h2 (fun p hp => hlt p (List.mem_append_right _ (List.mem_flatMap.2 ⟨i, List.mem_range.2 (by omega), hp⟩))) (fun n hn => hw n (List.mem_cons_of_mem _ (List.mem_append_left _ (weightsAll_mem (List.mem_map.2 ⟨i, List.mem_range.2 hi, rfl⟩) n hn))))
      obtain ⟨_, _, hcell⟩ := World.cells?_some h1
      have e0 := hcell 0 (by omega)
      have e1 := hcell 1 (by omega)
      rw [add_add'] at e0 e1
      exact ⟨e, ⟨ka, kc, va, vc, by simpa using e0, by simpa using e1, b0, b1⟩, hbk⟩
    obtain ⟨f, hf⟩ := choose_lt' ([], []) each
    refine ⟨some a, len, cap, (List.range len).map f, rfl, ⟨by simp, hl, hm, ?_⟩, ?_, ?_⟩
    · by_cases h0 : len = 0
      · exact .inl ⟨h0, by intro h; cases h⟩
      · obtain ⟨b, off, spot⟩ := a
        have hspot : spot = none := by
          obtain ⟨⟨_, _, _, _, h1, _⟩, _⟩ := hf 0 (by omega)
          have := World.cell?_spot h1
          simpa [Addr.add] using this
        subst hspot
        refine .inr ⟨b, off, rfl, ?_, fun i e he => ?_⟩
        · refine hlt (.cell b off) (List.mem_append_left _ ?_)
          exact MemPlace.mem_row.2 ⟨0, by rw [cells78]; omega, by simp⟩
        · have hi : i < len := by
            have := (List.getElem?_eq_some_iff.1 he).1; simpa using this
          have hg : e = f i := by simp [hi] at he; exact he.symm
          rw [hg]
          obtain ⟨⟨ka, kc, va, vc, c0, c1, b0, b1⟩, _⟩ := hf i hi
          rw [addr_add] at c0 c1
          exact ⟨ka, kc, va, vc, c0, by rw [Nat.add_assoc]; exact c1, b0, b1⟩
    · omega
    · intro p hp
      obtain ⟨i, hi, rfl⟩ := List.mem_map.1 hp
      exact (hf i (List.mem_range.1 hi)).2
end
end Go.Proofs.Ytnimlpbalfamcaa

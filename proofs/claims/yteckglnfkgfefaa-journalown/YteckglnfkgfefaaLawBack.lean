/- JournalBack, walked -/
import Derived.Test.YteckglnfkgfefaaJoO
import Derived.Test.YteckglnfkgfefaaJoP
import Derived.Test.YteckglnfkgfefaaJoQ
namespace Go.Proofs.Yteckglnfkgfefaa
open Go.RowKit Cod
set_option maxRecDepth 40000
set_option linter.unusedSimpArgs false
set_option linter.unusedVariables false
theorem own_slice {w : World} {B : Nat} {v : Value} {bs : List (List Nat)} (h : OwnBB w B v bs) (h0 : 1 ≤ bs.length) : ∃ g cap, v = .slice (some ⟨g, 0, none⟩) bs.length cap := by
  obtain ⟨vs, qs, ho, _⟩ := h
  rcases ho.2 with ⟨_, h1⟩ | ⟨g, c, cur, e, _⟩
  · omega
  · exact ⟨g, c, e⟩
theorem recL_few (rs : List ByteArray) (h : ∀ r ∈ rs, r.size ≤ 4096) : (recL rs).length ≤ rs.length * 4106 := by
  induction rs with
  | nil => simp [recL]
  | cons r rs ih =>
    have h1 := ih (fun x hx => h x (List.mem_cons_of_mem _ hx))
    have h2 := h r (List.mem_cons_self ..)
    have h3 := num_len10 (n := r.size) (by omega)
    simp only [recL, List.length_append, bl_length, List.length_cons]
    omega
theorem frL_few {rs : List ByteArray} {s : Nat} (h : okB rs) : (frL rs s).length ≤ 65536 := by
  have h1 := h.1
  have h2 := recL_few rs h.2
  have h3 := num_len10 (n := rs.length) (by omega)
  have h4 : (batL rs).length ≤ 10 + rs.length * 4106 := by unfold batL; rw [List.length_append]; omega
  rw [frL_length]
  unfold pcN
  omega
theorem LieBB.poke {w : World} {B i k o n : Nat} {v : Value} {vs : List Value} {qs : Nat → Nat} {bs : List (List Nat)} (hvo : w.ownsRow B 34 1 v n vs) (hvl : LieBB w B vs qs bs) (hi : i < bs.length) :
    (w.setCell ⟨qs i, k, none⟩ (.int .u8 (o : Nat))).ownsRow B 34 1 v n vs ∧ LieBB (w.setCell ⟨qs i, k, none⟩ (.int .u8 (o : Nat))) B vs qs (bs.set i ((bs.getD i []).set k o)) := by
  have hrow := (hvl i hi).2.2.1
  constructor
  · refine ⟨hvo.1, ?_⟩
    rcases hvo.2 with h1 | ⟨g, cap, cur, e, hb, hg, r⟩
    · exact .inl h1
    · refine .inr ⟨g, cap, cur, e, hb, ?_, r⟩
      have hne : g ≠ qs i := by
        rintro rfl
        obtain ⟨_, _, _, cur', h4, _⟩ := hrow
        rw [hg] at h4
        simp at h4
      rw [Below.heap_setCell _ _ _ _ hne]
      exact hg
  · intro x hx
    rw [List.length_set] at hx
    obtain ⟨h1, h2, h3, h4⟩ := hvl x hx
    refine ⟨h1, h2, ?_, h4⟩
    by_cases e : x = i
    · subst e
      have e2 : (bs.set x ((bs.getD x []).set k o)).getD x [] = (bs.getD x []).set k o := by
        simp only [List.getD_eq_getElem?_getD]
        rw [List.getElem?_set_self hx]
        rfl
      rw [e2]
      exact h3.set k o
    · have e2 : (bs.set i ((bs.getD i []).set k o)).getD x [] = bs.getD x [] := by
        simp only [List.getD_eq_getElem?_getD]
        rw [List.getElem?_set_ne (fun h => e h.symm)]
      rw [e2]
      have hne : qs x ≠ qs i := by
        rcases Nat.lt_or_gt_of_ne e with h | h
        · have := (hvl i hi).2.2.2 x h; omega
        · have := h4 i h; omega
      obtain ⟨r1, r2, r3, cur, r4, r5⟩ := h3
      exact ⟨r1, r2, r3, cur, by rw [Below.heap_setCell _ _ _ _ hne]; exact r4, r5⟩
theorem mem_poke {bs : List (List Nat)} {i k o : Nat} (hx : ∀ q ∈ bs, ∀ x ∈ q, x < 256) (ho : o < 256) (hi : i < bs.length) : ∀ q ∈ bs.set i ((bs.getD i []).set k o), ∀ x ∈ q, x < 256 := by
  intro q hq
  rcases List.mem_or_eq_of_mem_set hq with h | rfl
  · exact hx q h
  · refine mem_set ?_ ho
    rw [List.getD_eq_getElem?_getD, List.getElem?_eq_getElem hi]
    exact hx _ (List.getElem_mem _)
end Go.Proofs.Yteckglnfkgfefaa

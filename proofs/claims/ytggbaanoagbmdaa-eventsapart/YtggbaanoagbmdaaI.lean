/- slices.Clone of events -/
import Derived.Test.YtggbaanoagbmdaaG
import Derived.Lib.Walk
namespace Go.Proofs.Ytggbaanoagbmdaa
open Go.RowKit
theorem info41 : (Try.prog.info? 41).map (fun i => (i.zero, i.size, i.bytes)) = some (some (.agg #[.string ⟨#[]⟩, .int .i64 0, .int .i64 0, .string ⟨#[]⟩, .string ⟨#[]⟩]), 5, 64) := by kernel_rfl
theorem evc_len (l : List Ev) : (l.flatMap evc).length = l.length * 5 := by
  induction l with
  | nil => rfl
  | cons x r ih => simp only [List.flatMap_cons, List.length_append, ih, List.length_cons, List.length_nil]; omega
theorem evc_one (l : List Ev) : ∀ u ∈ l.flatMap evc, u.oneCell' = true := by
  intro u hu
  obtain ⟨x, _, hx⟩ := List.mem_flatMap.1 hu
  simp only [List.mem_cons, List.not_mem_nil, or_false] at hx
  rcases hx with rfl | rfl | rfl | rfl | rfl <;> rfl
theorem evc_at : ∀ (l : List Ev) (j : Nat) (u : Value), (l.flatMap evc)[j]? = some u → j < l.length * 5 ∧ (evc (l.getD (j / 5) Ev0))[j % 5]? = some u
  | [], j, u, h => by simp at h
  | x :: r, j, u, h => by
    simp only [List.flatMap_cons] at h
    by_cases hj : j < 5
    · rw [List.getElem?_append_left (by simpa using hj)] at h
      refine ⟨by simp only [List.length_cons]; omega, ?_⟩
      rw [Nat.div_eq_of_lt hj, Nat.mod_eq_of_lt hj]
      exact h
    · rw [List.getElem?_append_right (by simp; omega)] at h
      obtain ⟨h1, h2⟩ := evc_at r (j - 5) u h
      refine ⟨by simp only [List.length_cons]; omega, ?_⟩
      rw [show j / 5 = (j - 5) / 5 + 1 by omega, show j % 5 = (j - 5) % 5 by omega]
      exact h2
theorem IsE.news {w : World} {b off len cap : Nat} {l : List Ev} (h : IsE w (some ⟨b, off, none⟩) len cap l) : ∀ j u, (l.flatMap evc)[j]? = some u → w.cell? ⟨b, off + j, none⟩ = some u := by
  intro j u hj
  obtain ⟨h1, h2⟩ := evc_at l j u hj
  rw [h.1] at h1
  obtain ⟨b', off', e, _, c0, c1, c2, c3, c4⟩ := h.2.2.2.2 (j / 5) (by omega)
  cases e
  have hm : j % 5 < 5 := Nat.mod_lt _ (by omega)
  have hj' : off + j = off + j / 5 * 5 + j % 5 := by omega
  rw [hj']
  generalize j % 5 = q at *
  match q, hm with
  | 0, _ => simp at h2; rw [← h2]; exact c0
  | 1, _ => simp at h2; rw [← h2]; exact c1
  | 2, _ => simp at h2; rw [← h2]; exact c2
  | 3, _ => simp at h2; rw [← h2]; exact c3
  | 4, _ => simp at h2; rw [← h2]; exact c4
set_option maxRecDepth 40000 in
set_option maxHeartbeats 1000000 in
/-- slices.Clone of events -/
theorem clone_any (a : Option Addr) (len cap : Nat) (l : List Ev) (w : World) (h : IsE w a len cap l) (hbig : len * 64 ≤ 140737488355328) :
    Calls Try.prog 28 #[.slice a len cap] w fun e w' => ∃ v, e = .returned v ∧ w'.ownsRow w.heap.size 41 5 v len (l.flatMap evc) ∧ Below w.heap.size w w' := by
  obtain ⟨i0, hi, hz0, hz1, hz2⟩ := info_parts info41
  have HLN := hide h.1
  have HV := hide h
  have hcl : len ≤ maxLen := Nat.le_trans h.2.1 h.2.2.1
  have HCL := hide hcl
  have q22 : ∀ (w : World) (a : Option Addr) (n c n' c' : Nat), (binOp .eql 22 (.slice a n c) (.slice none n' c')).run Try.prog w = .ok (.bool a.isNone) w := fun w a n c n' c' => Lib.run_eql_slice_nil w _ _ a n c n' c' Try.underlying22
  clear h hcl
  cases a with
  | none =>
    have h0 : len = 0 := by
      by_cases hl : 0 < len
      · obtain ⟨_, _, e, _⟩ := HV.out.2.2.2.2 0 hl
        cases e
      · omega
    subst h0
    have hl : l = [] := List.eq_nil_of_length_eq_zero HLN.out
    subst hl
    go_enter Try.func28, Try.ntmps28
    go_wp2
    go_ret
    exact ⟨_, rfl, World.ownsRow_nil _ _ _ _, Below.refl _ _⟩
  | some p =>
    have HNW : Hid (∀ j u, (l.flatMap evc)[j]? = some u → (w.alloc (.cells #[] 41)).cell? (p.add j) = some u) := hide (fun j u hj => by
      obtain ⟨h1, _⟩ := evc_at l j u hj
      rw [HLN.out] at h1
      obtain ⟨b, off, e, _⟩ := HV.out.2.2.2.2 0 (by omega)
      cases e
      rw [Addr.add_lit]
      exact Lib.cell?_alloc_some _ (HV.out.news j u hj))
    go_enter Try.func28, Try.ntmps28
    go_wp2_with (at_builtin; refine wpList_append_own _ rfl _ _ 22 rfl w.heap.size 41 i0 _ 5 64 Try.underlying22 hi hz0 hz1 hz2 rfl (by decide) _ _ _ rfl (World.ownsRow_made w #[] 0 (Nat.le_refl _) (Nat.zero_le _) (by simp)) p len cap (l.flatMap evc) rfl ?qc1 ?qc2 ?qc3 ?qc4 ?qc5 ?qc6 ?_)
    case qc1 => rw [evc_len, HLN.out]
    case qc2 => exact HNW.out
    case qc3 => exact evc_one l
    case qc4 => rw [Nat.zero_add]; exact HCL.out
    case qc5 => rw [Nat.zero_add]; exact hbig
    case qc6 => simp
    intro v' w1 hown hgrow hnil
    go_wp2
    go_ret
    refine ⟨v', rfl, by simpa using hown, ?_⟩
    exact ((Below.refl _ w).alloc (Nat.le_refl _) _).grown hgrow (by simp) (by intro k hk; simp [Value.ownBlock] at hk; omega)
end Go.Proofs.Ytggbaanoagbmdaa

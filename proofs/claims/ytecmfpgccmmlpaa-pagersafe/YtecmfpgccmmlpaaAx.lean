/- contracts: a step -/
import Derived.Test.YtecmfpgccmmlpaaZx
namespace Go.Proofs.Ytecmfpgccmmlpaa
open Go.RowKit
variable {X : Nat → Prop}
def St.write (n : Nat) (i : Int) (l : List Nat) (st : St) : St × Int :=
  if st.down = true then (st, 8) else if ¬ (0 ≤ i ∧ i < n) then (st, 2) else if 4096 < l.length then (st, 4) else if st.arm = true ∧ st.left = 0 then (st.cuts, 8) else (st.goes i.toNat l, 0)
theorem bool_not {x : Bool} (h : ¬ x = true) : x = false := by cases x <;> simp_all
theorem write_any (w : World) (g gs b n : Nat) (st : St) (h : IsD X w g gs b n st) (i : Int) (a : Option Addr) (len cap : Nat) (l : List Nat) (hB : IsB w a len cap l) (hw : st.wr < 4611686018427387904) :
    Calls Try.prog 115 #[.pointer (some ⟨g, 0, none⟩), .int .i64 i, .slice a len cap] w fun e w' => e = .returned (.int .i64 (st.write n i l).2) ∧ IsD X w' g gs b n (st.write n i l).1 ∧ Frm (SD g gs b) w w' := by
  unfold St.write
  by_cases hd : st.down = true
  · rw [if_pos hd]
    exact (write_dn w g gs b n st h hd i _).mono (by rintro e w' ⟨rfl, rfl⟩; exact ⟨rfl, h, Frm.refl _ _⟩)
  · rw [if_neg hd]
    have hd' := bool_not hd
    by_cases hi : 0 ≤ i ∧ i < n
    · rw [if_neg (fun e => e hi)]
      obtain ⟨k, rfl⟩ : ∃ k : Nat, i = k := ⟨i.toNat, by omega⟩
      have hk : k < n := by omega
      rw [Int.toNat_natCast]
      by_cases hl : 4096 < l.length
      · rw [if_pos hl]
        exact (write_long w g gs b n st h hd' k hk a len cap (by rw [← hB.1]; exact hl)).mono (by rintro e w' ⟨rfl, rfl⟩; exact ⟨rfl, h, Frm.refl _ _⟩)
      · rw [if_neg hl]
        have hl' : len ≤ 4096 := by rw [← hB.1]; omega
        by_cases ha : st.arm = true ∧ st.left = 0
        · rw [if_pos ha]
          exact write_cut w g gs b n st h hd' k hk a len cap hl' ha.1 ha.2
        · rw [if_neg ha]
          exact write_ok w g gs b n st h hd' k hk a len cap l hB hl' hw (fun e => Nat.pos_of_ne_zero (fun e2 => ha ⟨e, e2⟩))
    · rw [if_pos hi]
      exact (write_range w g gs b n st h hd' i hi _).mono (by rintro e w' ⟨rfl, rfl⟩; exact ⟨rfl, h, Frm.refl _ _⟩)
def St.sync (st : St) : St × Int := if st.down = true then (st, 8) else (st.syncs, 0)
theorem sync_any (w : World) (g gs b n : Nat) (st : St) (h : IsD X w g gs b n st) :
    Calls Try.prog 44 #[.pointer (some ⟨g, 0, none⟩)] w fun e w' => e = .returned (.int .i64 st.sync.2) ∧ IsD X w' g gs b n st.sync.1 ∧ Frm (SD g gs b) w w' := by
  unfold St.sync
  by_cases hd : st.down = true
  · rw [if_pos hd]
    exact (sync_dn w g gs b n st h hd).mono (by rintro e w' ⟨rfl, rfl⟩; exact ⟨rfl, h, Frm.refl _ _⟩)
  · rw [if_neg hd]
    exact sync_ok w g gs b n st h (bool_not hd)
def St.armed (c : Int) (st : St) : St × Int := if st.down = true then (st, 8) else (st.arms c, 0)
theorem arm_any (w : World) (g gs b n : Nat) (st : St) (h : IsD X w g gs b n st) (c : Int) (hc : c ≤ 9223372036854775807) :
    Calls Try.prog 19 #[.pointer (some ⟨g, 0, none⟩), .int .i64 c] w fun e w' => e = .returned (.int .i64 (st.armed c).2) ∧ IsD X w' g gs b n (st.armed c).1 ∧ Frm (SD g gs b) w w' := by
  unfold St.armed
  by_cases hd : st.down = true
  · rw [if_pos hd]
    exact (arm_dn w g gs b n st h hd c).mono (by rintro e w' ⟨rfl, rfl⟩; exact ⟨rfl, h, Frm.refl _ _⟩)
  · rw [if_neg hd]
    exact arm_up w g gs b n st h (bool_not hd) c hc
def St.cut (st : St) : St × Int := if st.down = true then (st, 8) else (st.cuts, 0)
theorem cut_any (w : World) (g gs b n : Nat) (st : St) (h : IsD X w g gs b n st) :
    Calls Try.prog 20 #[.pointer (some ⟨g, 0, none⟩)] w fun e w' => e = .returned (.int .i64 st.cut.2) ∧ IsD X w' g gs b n st.cut.1 ∧ Frm (SD g gs b) w w' := by
  unfold St.cut
  by_cases hd : st.down = true
  · rw [if_pos hd]
    exact (cut_dn w g gs b n st h hd).mono (by rintro e w' ⟨rfl, rfl⟩; exact ⟨rfl, h, Frm.refl _ _⟩)
  · rw [if_neg hd]
    exact cut_up w g gs b n st h (bool_not hd)
def goodB (l : List (Nat × Nat)) : Bool := l.all (fun x => decide (x.1 < 3))
theorem goodB_iff {l : List (Nat × Nat)} : goodB l = true ↔ GoodF l := by simp only [goodB, GoodF, List.all_eq_true, decide_eq_true_eq]
def St.rest (n : Nat) (l : List (Nat × Nat)) (st : St) : St × Int :=
  if st.down = true then (if 1024 < l.length then (st, 3) else if goodB l = true then ((st.fates l (st.uns n) (st.uns n).length).back, 0) else (st, 15)) else (st, 9)
/-- (*Disk).Restore of fates that are too many, or no fates -/
theorem rest_bad (w : World) (g gs b n : Nat) (st : St) (h : IsD X w g gs b n st) (hd : st.down = true) (v : Value) (k : Int) (hk : k ≠ 0) (hF : Calls Try.prog 52 #[v] w fun e w' => e = .returned (.int .i64 k) ∧ Below w.heap.size w w') :
    Calls Try.prog 21 #[.pointer (some ⟨g, 0, none⟩), v] w fun e w' => e = .returned (.int .i64 k) ∧ Below w.heap.size w w' := by
  have c5 := h.cells.c5
  rw [hd] at c5
  have FT := hide hF
  have d0 : (k == 0) = false := by simpa using hk
  have d1 : decide (k = 0) = false := decide_eq_false hk
  clear h hd hF
  go_enter Try.func21, Try.ntmps21
  go_wp2_with fail
  refine FT.out.mono ?_
  rintro e w1 ⟨rfl, hb1⟩
  have HB1 := hide hb1
  clear hb1
  go_wp2
  go_ret
  exact ⟨rfl, HB1.out⟩
theorem rest_any (w : World) (g gs b n : Nat) (st : St) (h : IsD X w g gs b n st) (a : Option Addr) (len cap : Nat) (l : List (Nat × Nat)) (hF : IsF w a len cap l) :
    Calls Try.prog 21 #[.pointer (some ⟨g, 0, none⟩), .slice a len cap] w fun e w' => e = .returned (.int .i64 (st.rest n l).2) ∧ IsD X w' g gs b n (st.rest n l).1 ∧ Frm (SD g gs b) w w' := by
  unfold St.rest
  by_cases hd : st.down = true
  · rw [if_pos hd]
    by_cases hl : 1024 < l.length
    · rw [if_pos hl]
      refine (rest_bad w g gs b n st h hd _ 3 (by decide) ((fates_many w a len cap (by rw [← hF.1]; exact hl)).mono ?_)).mono ?_
      · rintro e w' ⟨rfl, rfl⟩; exact ⟨rfl, Below.refl _ _⟩
      · rintro e w' ⟨rfl, hb⟩; exact ⟨rfl, h.below hb, Frm.below hb⟩
    · rw [if_neg hl]
      have hl' : len ≤ 1024 := by rw [← hF.1]; omega
      by_cases hg : goodB l = true
      · rw [if_pos hg]
        exact rest_good w g gs b n st h hd a len cap l hF hl' (goodB_iff.1 hg)
      · rw [if_neg hg]
        refine (rest_bad w g gs b n st h hd _ 15 (by decide) ((fates_any w a len cap l hF hl').mono ?_)).mono ?_
        · rintro e w' ⟨h1 | h1, h2⟩
          · exact absurd (goodB_iff.2 h1.2) hg
          · exact ⟨h1.1, h2⟩
        · rintro e w' ⟨rfl, hb⟩; exact ⟨rfl, h.below hb, Frm.below hb⟩
  · rw [if_neg hd]
    exact (rest_up w g gs b n st h (bool_not hd) _).mono (by rintro e w' ⟨rfl, rfl⟩; exact ⟨rfl, h, Frm.refl _ _⟩)
/-- a step -/
structure Stp where
  kind : Nat
  sec : Int
  dat : List Nat
  cnt : Int
  fat : List (Nat × Nat)
def St.step (n : Nat) (s : Stp) (st : St) : St × Int :=
  if s.kind = 1 then st.write n s.sec s.dat else if s.kind = 2 then st.sync else if s.kind = 3 then st.armed s.cnt else if s.kind = 4 then st.cut else if s.kind = 5 then st.rest n s.fat else (st, 15)
/-- a step in memory, by its cells -/
def IsS (w : World) (c0 c1 c2 c3 c4 : Value) (s : Stp) : Prop :=
  c0 = .int .u8 (s.kind : Nat) ∧ c1 = .int .i64 s.sec ∧ c3 = .int .i64 s.cnt ∧ s.kind < 256 ∧ s.cnt ≤ 9223372036854775807 ∧ (∃ a len cap, c2 = .slice a len cap ∧ IsB w a len cap s.dat) ∧ ∃ a len cap, c4 = .slice a len cap ∧ IsF w a len cap s.fat
theorem IsS.below {w w' : World} {c0 c1 c2 c3 c4 : Value} {s : Stp} (h : IsS w c0 c1 c2 c3 c4 s) (hb : Below w.heap.size w w') : IsS w' c0 c1 c2 c3 c4 s := by
  obtain ⟨h0, h1, h3, h5, h6, ⟨a, len, cap, h2, hB⟩, a', len', cap', h4, hF⟩ := h
  exact ⟨h0, h1, h3, h5, h6, ⟨a, len, cap, h2, hB.below hb⟩, a', len', cap', h4, hF.below hb⟩
theorem IsS.frm {w w' : World} {g gs b n : Nat} {st : St} {c0 c1 c2 c3 c4 : Value} {s : Stp} (h : IsS w c0 c1 c2 c3 c4 s) (hI : IsD X w g gs b n st) (hf : Frm (SD g gs b) w w') : IsS w' c0 c1 c2 c3 c4 s := by
  obtain ⟨h0, h1, h3, h5, h6, ⟨a, len, cap, h2, hB⟩, a', len', cap', h4, hF⟩ := h
  exact ⟨h0, h1, h3, h5, h6, ⟨a, len, cap, h2, hB.frm hI hf⟩, a', len', cap', h4, hF.frm hI hf⟩
theorem goes_wr (st : St) (i : Nat) (l : List Nat) : (st.goes i l).wr = st.wr + 1 := by
  unfold St.goes
  split <;> rfl
theorem step_wr (st : St) (n : Nat) (s : Stp) : (st.step n s).1.wr ≤ st.wr + 1 := by
  unfold St.step St.write St.sync St.armed St.cut St.rest
  repeat' split
  all_goals first | (show st.wr ≤ st.wr + 1; omega) | (rw [goes_wr]; omega)
end Go.Proofs.Ytecmfpgccmmlpaa

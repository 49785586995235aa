/- where a cell stands -/
import Derived.Test.YtffhkljegopjmaaDoorKC
namespace Go.Proofs.YtffhkljegopjmaaDoor
open Go.RowKit
set_option maxRecDepth 40000
/-- a cell of noughts -/
def noC (it wa : Int) : Cl := ⟨it, wa, 0, 0, 0, 0⟩
/-- how many stand ahead -/
def lowN (l : List Cl) (t : Cl) : Nat := (l.takeWhile (fun x => decide (ordC x t < 0))).length
def hasB (l : List Cl) (t : Cl) : Bool := decide (lowN l t < l.length) && decide (ordC (l.getD (lowN l t) Cl0) t = 0)
theorem takeWhile_len {α : Type} (p : α → Bool) (d : α) : ∀ (l : List α) (k : Nat), k ≤ l.length → (∀ j, j < k → p (l.getD j d) = true) → (k < l.length → p (l.getD k d) = false) → (l.takeWhile p).length = k
  | [], k, hk, _, _ => by simp at hk; simp [hk]
  | a :: r, 0, _, _, h2 => by
    have := h2 (by simp)
    simp only [List.getD_cons_zero] at this
    rw [List.takeWhile_cons_of_neg (by simp [this])]; rfl
  | a :: r, k + 1, hk, h1, h2 => by
    have h0 := h1 0 (by omega)
    simp only [List.getD_cons_zero] at h0
    rw [List.takeWhile_cons_of_pos h0, List.length_cons, takeWhile_len p d r k (by simpa using hk) (fun j hj => by simpa using h1 (j + 1) (by omega)) (fun h => by simpa using h2 (by simpa using h))]
/-- what precedes the target stands ahead of what does not -/
def MonoB (l : List Cl) (t : Cl) : Prop := ∀ a b, a ≤ b → b < l.length → ordC (l.getD b Cl0) t < 0 → ordC (l.getD a Cl0) t < 0
set_option maxHeartbeats 2000000 in
theorem search_any (a : Option Addr) (len cap : Nat) (l : List Cl) (t : Cl) (w : World) (h : IsC w a len cap l) (hM : MonoB l t) (hlen : len ≤ 4096) : Calls Tryd.prog 51 #[.slice a len cap, vc t, .func (.func 18) #[] #[]] w fun e w' => e = .returned (.tuple #[.int .i64 (lowN l t), .bool (hasB l t)]) ∧ Below w.heap.size w w' := by
  have HV := hide h
  have HM := hide hM
  have HLN := hide h.1
  have hcap := h.2.1
  have hcm : cap ≤ 9223372036854775807 := h.2.2.1
  have hcm' : (cap : Int) ≤ 9223372036854775807 := by omega
  have HL : Hid (∀ k, k ≤ l.length → (∀ j, j < k → ordC (l.getD j Cl0) t < 0) → (k < l.length → 0 ≤ ordC (l.getD k Cl0) t) → lowN l t = k) := hide (fun k hk h1 h2 => takeWhile_len _ Cl0 l k hk (fun j hj => decide_eq_true (h1 j hj)) (fun h => decide_eq_false (by have := h2 h; omega)))
  have HH : Hid (hasB l t = (decide (lowN l t < l.length) && decide (ordC (l.getD (lowN l t) Cl0) t = 0))) := hide rfl
  generalize hasB l t = hb at *
  generalize lowN l t = lo at *
  have HOD := hide (fun x W => ord_any x t W)
  have HOE : Hid (∀ x, ordC x t = ordC x t) := hide (fun _ => rfl)
  obtain ⟨t1, t2, t3, t4, t5, t6⟩ := t
  have HB : Hid (Below w.heap.size w (w.alloc (.cells #[.int .i64 t1, .int .i64 t2, .int .i64 t3, .int .i64 t4, .int .i64 t5, .int .i64 t6] 43))) := hide ((Below.refl _ w).alloc (Nat.le_refl _) _)
  have HC0 : Hid (CellAt (w.alloc (.cells #[.int .i64 t1, .int .i64 t2, .int .i64 t3, .int .i64 t4, .int .i64 t5, .int .i64 t6] 43)) w.heap.size 0 ⟨t1, t2, t3, t4, t5, t6⟩) := hide ⟨by simp, by simp, by simp, by simp, by simp, by simp⟩
  have HZ0 : Hid ((w.alloc (.cells #[.int .i64 t1, .int .i64 t2, .int .i64 t3, .int .i64 t4, .int .i64 t5, .int .i64 t6] 43)).heap.size = w.heap.size + 1) := hide (by simp)
  clear h hM
  go_enter Tryd.func51, Tryd.ntmps51
  go_wp2
  generalize w.alloc (.cells #[.int .i64 t1, .int .i64 t2, .int .i64 t3, .int .i64 t4, .int .i64 t5, .int .i64 t6] 43) = w1 at *
  go_loopw [9, 10] (fun i j wr => ∃ lo hi : Nat, i = .int .i64 lo ∧ j = .int .i64 hi ∧ lo ≤ hi ∧ hi ≤ len ∧ Hid (∀ t', t' < lo → ordC (l.getD t' Cl0) ⟨t1, t2, t3, t4, t5, t6⟩ < 0) ∧ Hid (∀ t', hi ≤ t' → t' < len → 0 ≤ ordC (l.getD t' Cl0) ⟨t1, t2, t3, t4, t5, t6⟩) ∧ Hid (Below (w.heap.size + 1) w1 wr)) (fun i j _ => (intOf j).toNat - (intOf i).toNat)
  case atStart => exact ⟨0, len, by simp, by simp, by omega, by omega, hide (fun t' h => by omega), hide (fun t' h h' => by omega), hide (Below.refl _ _)⟩
  case round =>
    obtain ⟨i, j, rfl, rfl, hij, hj, HA, HZ, HW⟩ := hrel
    by_cases hlt : i < j
    · obtain ⟨m, hm⟩ : ∃ m, m = (i + j) / 2 := ⟨_, rfl⟩
      have hm' : ((i : Int) + (j : Int)) / 2 = (m : Int) := by omega
      have hmj : m < j := by omega
      have him : i ≤ m := by omega
      have hml : m < len := by omega
      have HM' := hide hm
      clear hm
      obtain ⟨bs, off, rfl, hbs, y0⟩ := HV.out.2.2.2.2.1 m (by omega)
      generalize hy : l.getD m Cl0 = y at *
      have HY := hide hy
      clear hy
      obtain ⟨y1, y2, y3, y4, y5, y6⟩ := y
      have HD := hide (HOD.out ⟨y1, y2, y3, y4, y5, y6⟩)
      have HYC := hide y0
      clear y0
      have HS0 : Hid (∀ W : World, Below (w.heap.size + 1) w1 W → (W.cell? ⟨w.heap.size, 0, none⟩ = some (.int .i64 t1) ∧ W.cell? ⟨w.heap.size, 1, none⟩ = some (.int .i64 t2) ∧ W.cell? ⟨w.heap.size, 2, none⟩ = some (.int .i64 t3) ∧ W.cell? ⟨w.heap.size, 3, none⟩ = some (.int .i64 t4) ∧ W.cell? ⟨w.heap.size, 4, none⟩ = some (.int .i64 t5) ∧ W.cell? ⟨w.heap.size, 5, none⟩ = some (.int .i64 t6) ∧ W.cell? ⟨bs, off + m * 6, none⟩ = some (.int .i64 y1) ∧ W.cell? ⟨bs, off + m * 6 + 1, none⟩ = some (.int .i64 y2) ∧ W.cell? ⟨bs, off + m * 6 + 2, none⟩ = some (.int .i64 y3) ∧ W.cell? ⟨bs, off + m * 6 + 3, none⟩ = some (.int .i64 y4) ∧ W.cell? ⟨bs, off + m * 6 + 4, none⟩ = some (.int .i64 y5) ∧ W.cell? ⟨bs, off + m * 6 + 5, none⟩ = some (.int .i64 y6))) := hide (fun W hW => by
        obtain ⟨c1, c2, c3, c4, c5, c6⟩ := HC0.out.below (by omega) hW
        obtain ⟨d1, d2, d3, d4, d5, d6⟩ := HYC.out.below hbs (HB.out.trans (hW.mono (by omega)))
        simp only [Nat.zero_add] at c1 c2 c3 c4 c5 c6
        exact ⟨c1, c2, c3, c4, c5, c6, d1, d2, d3, d4, d5, d6⟩)
      have HWZ := hide (HW.out.size)
      rw [HZ0.out] at HWZ
      generalize hod : ordC ⟨y1, y2, y3, y4, y5, y6⟩ ⟨t1, t2, t3, t4, t5, t6⟩ = od at *
      have HODE := hide hod
      clear hod
      by_cases ho : od < 0
      · go_wp2_with fail
        go_region_held (fun W : World => (W.cell? ⟨w.heap.size, 0, none⟩ = some (.int .i64 t1) ∧ W.cell? ⟨w.heap.size, 1, none⟩ = some (.int .i64 t2) ∧ W.cell? ⟨w.heap.size, 2, none⟩ = some (.int .i64 t3) ∧ W.cell? ⟨w.heap.size, 3, none⟩ = some (.int .i64 t4) ∧ W.cell? ⟨w.heap.size, 4, none⟩ = some (.int .i64 t5) ∧ W.cell? ⟨w.heap.size, 5, none⟩ = some (.int .i64 t6) ∧ W.cell? ⟨bs, off + m * 6, none⟩ = some (.int .i64 y1) ∧ W.cell? ⟨bs, off + m * 6 + 1, none⟩ = some (.int .i64 y2) ∧ W.cell? ⟨bs, off + m * 6 + 2, none⟩ = some (.int .i64 y3) ∧ W.cell? ⟨bs, off + m * 6 + 3, none⟩ = some (.int .i64 y4) ∧ W.cell? ⟨bs, off + m * 6 + 4, none⟩ = some (.int .i64 y5) ∧ W.cell? ⟨bs, off + m * 6 + 5, none⟩ = some (.int .i64 y6))) (first | exact HS0.out _ HW.out | exact HS0.out _ HW.out.drew | exact HS0.out _ (HW.out.drew.trans (HBo.mono HWZ.out))) (first | (go_at_call 18; refine (HD.out _).mono ?_; rintro e w' ⟨rfl, HBo⟩))
        go_wp2
        go_roundw
        case rel => exact ⟨m + 1, j, by simp, by simp, by omega, by omega, hide (fun t' ht => HM.out t' m (by omega) (by rw [HLN.out]; omega) (by rw [HY.out, HODE.out]; exact ho)), HZ, hide (HW.out.drew.trans (HBo.mono HWZ.out))⟩
        case measure => simp [intOf]; omega
      · go_wp2_with fail
        go_region_held (fun W : World => (W.cell? ⟨w.heap.size, 0, none⟩ = some (.int .i64 t1) ∧ W.cell? ⟨w.heap.size, 1, none⟩ = some (.int .i64 t2) ∧ W.cell? ⟨w.heap.size, 2, none⟩ = some (.int .i64 t3) ∧ W.cell? ⟨w.heap.size, 3, none⟩ = some (.int .i64 t4) ∧ W.cell? ⟨w.heap.size, 4, none⟩ = some (.int .i64 t5) ∧ W.cell? ⟨w.heap.size, 5, none⟩ = some (.int .i64 t6) ∧ W.cell? ⟨bs, off + m * 6, none⟩ = some (.int .i64 y1) ∧ W.cell? ⟨bs, off + m * 6 + 1, none⟩ = some (.int .i64 y2) ∧ W.cell? ⟨bs, off + m * 6 + 2, none⟩ = some (.int .i64 y3) ∧ W.cell? ⟨bs, off + m * 6 + 3, none⟩ = some (.int .i64 y4) ∧ W.cell? ⟨bs, off + m * 6 + 4, none⟩ = some (.int .i64 y5) ∧ W.cell? ⟨bs, off + m * 6 + 5, none⟩ = some (.int .i64 y6))) (first | exact HS0.out _ HW.out | exact HS0.out _ HW.out.drew | exact HS0.out _ (HW.out.drew.trans (HBo.mono HWZ.out))) (first | (go_at_call 18; refine (HD.out _).mono ?_; rintro e w' ⟨rfl, HBo⟩))
        go_wp2
        go_roundw
        case rel => exact ⟨i, m, by simp, by simp, by omega, by omega, HA, hide (fun t' ht ht' => Int.not_lt.1 fun hn => by have := HM.out m t' ht (by rw [HLN.out]; omega) hn; rw [HY.out, HODE.out] at this; omega), hide (HW.out.drew.trans (HBo.mono HWZ.out))⟩
        case measure => simp [intOf]; omega
    · obtain rfl : i = j := by omega
      have HE := hide (HL.out i (by rw [HLN.out]; omega) HA.out (fun h => HZ.out i (by omega) (by rw [HLN.out] at h; exact h)))
      clear hlt
      by_cases hi : i < len
      · obtain ⟨bs, off, rfl, hbs, y0⟩ := HV.out.2.2.2.2.1 i (by omega)
        generalize hy : l.getD i Cl0 = y at *
        have HY := hide hy
        clear hy
        obtain ⟨y1, y2, y3, y4, y5, y6⟩ := y
        have HD := hide (HOD.out ⟨y1, y2, y3, y4, y5, y6⟩)
        have HYC := hide y0
        clear y0
        have HS0 : Hid (∀ W : World, Below (w.heap.size + 1) w1 W → (W.cell? ⟨w.heap.size, 0, none⟩ = some (.int .i64 t1) ∧ W.cell? ⟨w.heap.size, 1, none⟩ = some (.int .i64 t2) ∧ W.cell? ⟨w.heap.size, 2, none⟩ = some (.int .i64 t3) ∧ W.cell? ⟨w.heap.size, 3, none⟩ = some (.int .i64 t4) ∧ W.cell? ⟨w.heap.size, 4, none⟩ = some (.int .i64 t5) ∧ W.cell? ⟨w.heap.size, 5, none⟩ = some (.int .i64 t6) ∧ W.cell? ⟨bs, off + i * 6, none⟩ = some (.int .i64 y1) ∧ W.cell? ⟨bs, off + i * 6 + 1, none⟩ = some (.int .i64 y2) ∧ W.cell? ⟨bs, off + i * 6 + 2, none⟩ = some (.int .i64 y3) ∧ W.cell? ⟨bs, off + i * 6 + 3, none⟩ = some (.int .i64 y4) ∧ W.cell? ⟨bs, off + i * 6 + 4, none⟩ = some (.int .i64 y5) ∧ W.cell? ⟨bs, off + i * 6 + 5, none⟩ = some (.int .i64 y6))) := hide (fun W hW => by
          obtain ⟨c1, c2, c3, c4, c5, c6⟩ := HC0.out.below (by omega) hW
          obtain ⟨d1, d2, d3, d4, d5, d6⟩ := HYC.out.below hbs (HB.out.trans (hW.mono (by omega)))
          simp only [Nat.zero_add] at c1 c2 c3 c4 c5 c6
          exact ⟨c1, c2, c3, c4, c5, c6, d1, d2, d3, d4, d5, d6⟩)
        have HWZ := hide (HW.out.size)
        rw [HZ0.out] at HWZ
        generalize hod : ordC ⟨y1, y2, y3, y4, y5, y6⟩ ⟨t1, t2, t3, t4, t5, t6⟩ = od at *
        have HODE := hide hod
        clear hod
        have HHE : Hid (hb = decide (od = 0)) := hide (by rw [HH.out, HE.out, HLN.out, HY.out, HODE.out]; simp [hi])
        by_cases ho : od = 0
        · subst ho
          go_wp2_with fail
          go_region_held (fun W : World => (W.cell? ⟨w.heap.size, 0, none⟩ = some (.int .i64 t1) ∧ W.cell? ⟨w.heap.size, 1, none⟩ = some (.int .i64 t2) ∧ W.cell? ⟨w.heap.size, 2, none⟩ = some (.int .i64 t3) ∧ W.cell? ⟨w.heap.size, 3, none⟩ = some (.int .i64 t4) ∧ W.cell? ⟨w.heap.size, 4, none⟩ = some (.int .i64 t5) ∧ W.cell? ⟨w.heap.size, 5, none⟩ = some (.int .i64 t6) ∧ W.cell? ⟨bs, off + i * 6, none⟩ = some (.int .i64 y1) ∧ W.cell? ⟨bs, off + i * 6 + 1, none⟩ = some (.int .i64 y2) ∧ W.cell? ⟨bs, off + i * 6 + 2, none⟩ = some (.int .i64 y3) ∧ W.cell? ⟨bs, off + i * 6 + 3, none⟩ = some (.int .i64 y4) ∧ W.cell? ⟨bs, off + i * 6 + 4, none⟩ = some (.int .i64 y5) ∧ W.cell? ⟨bs, off + i * 6 + 5, none⟩ = some (.int .i64 y6))) (first | exact HS0.out _ HW.out | exact HS0.out _ HW.out.drew | exact HS0.out _ (HW.out.drew.trans (HBo.mono HWZ.out))) (first | (go_at_call 18; refine (HD.out _).mono ?_; rintro e w' ⟨rfl, HBo⟩))
          go_wp2
          go_ret2
          exact ⟨by rw [HHE.out, HE.out]; simp, HB.out.trans ((HW.out.drew.trans (HBo.mono HWZ.out)).mono (by omega))⟩
        · go_wp2_with fail
          go_region_held (fun W : World => (W.cell? ⟨w.heap.size, 0, none⟩ = some (.int .i64 t1) ∧ W.cell? ⟨w.heap.size, 1, none⟩ = some (.int .i64 t2) ∧ W.cell? ⟨w.heap.size, 2, none⟩ = some (.int .i64 t3) ∧ W.cell? ⟨w.heap.size, 3, none⟩ = some (.int .i64 t4) ∧ W.cell? ⟨w.heap.size, 4, none⟩ = some (.int .i64 t5) ∧ W.cell? ⟨w.heap.size, 5, none⟩ = some (.int .i64 t6) ∧ W.cell? ⟨bs, off + i * 6, none⟩ = some (.int .i64 y1) ∧ W.cell? ⟨bs, off + i * 6 + 1, none⟩ = some (.int .i64 y2) ∧ W.cell? ⟨bs, off + i * 6 + 2, none⟩ = some (.int .i64 y3) ∧ W.cell? ⟨bs, off + i * 6 + 3, none⟩ = some (.int .i64 y4) ∧ W.cell? ⟨bs, off + i * 6 + 4, none⟩ = some (.int .i64 y5) ∧ W.cell? ⟨bs, off + i * 6 + 5, none⟩ = some (.int .i64 y6))) (first | exact HS0.out _ HW.out | exact HS0.out _ HW.out.drew | exact HS0.out _ (HW.out.drew.trans (HBo.mono HWZ.out))) (first | (go_at_call 18; refine (HD.out _).mono ?_; rintro e w' ⟨rfl, HBo⟩))
          go_wp2
          go_ret2
          exact ⟨by rw [HHE.out, HE.out]; simp [ho], HB.out.trans ((HW.out.drew.trans (HBo.mono HWZ.out)).mono (by omega))⟩
      · have HHE : Hid (hb = false) := hide (by rw [HH.out, HE.out, HLN.out]; simp [hi])
        have hin : ¬ (i : Int) < (len : Int) := by omega
        go_wp2_with fail
        refine wp_region_held_drew (S := fun _ : World => True) (by kernel_rfl) ?hSa (fun hHeld => ?_)
        case hSa => exact trivial
        refine hTake (i := 0) (v := ?v0a) (some 35) rfl rfl (by kernel_rfl) (by kernel_rfl) (by kernel_rfl) (fun _ _ _ h => h) (by rfl) (by assumption) ?hy0a ?hn0a
        case hy0a => (intro w hSw; (try dsimp only at hSw); skip; go_simp; try with_reducible rfl)
        try simp only [Act.put, List.setIfInBounds_toArray, List.set_cons_zero, List.set_cons_succ]
        refine hTake (i := 1) (v := ?v1a) (some 36) rfl rfl (by kernel_rfl) (by kernel_rfl) (by kernel_rfl) (fun _ _ _ h => h) (by rfl) (by assumption) ?hy1a ?hn1a
        case hy1a => (intro w hSw; (try dsimp only at hSw); skip; go_simp; try with_reducible rfl)
        try simp only [Act.put, List.setIfInBounds_toArray, List.set_cons_zero, List.set_cons_succ]
        refine hTake (i := 2) (v := ?v2a) (some 37) rfl rfl (by kernel_rfl) (by kernel_rfl) (by kernel_rfl) (fun _ _ _ h => h) (by rfl) (by assumption) ?hy2a ?hn2a
        case hy2a => (intro w hSw; (try dsimp only at hSw); skip; go_simp; try with_reducible rfl)
        try simp only [Act.put, List.setIfInBounds_toArray, List.set_cons_zero, List.set_cons_succ]
        refine hTake (i := 3) (v := ?v3a) (some 38) rfl rfl (by kernel_rfl) (by kernel_rfl) (by kernel_rfl) (fun _ _ _ h => h) (by rfl) (by assumption) ?hy3a ?hn3a
        case hy3a => (intro w hSw; (try dsimp only at hSw); skip; go_simp; try with_reducible rfl)
        try simp only [Act.put, List.setIfInBounds_toArray, List.set_cons_zero, List.set_cons_succ]
        refine hTake (i := 4) (v := ?v4a) (some 39) rfl rfl (by kernel_rfl) (by kernel_rfl) (by kernel_rfl) (fun _ _ _ h => h) (by rfl) (by assumption) ?hy4a ?hn4a
        case hy4a => (intro w hSw; (try dsimp only at hSw); skip; go_simp; try with_reducible rfl)
        try simp only [Act.put, List.setIfInBounds_toArray, List.set_cons_zero, List.set_cons_succ]
        refine hSkip (i := 5) (some 40) rfl rfl (by kernel_rfl) (by kernel_rfl) (by kernel_rfl) (fun _ _ _ h => h) (by rfl) (by assumption) ?_
        try simp only [Act.put, List.setIfInBounds_toArray, List.set_cons_zero, List.set_cons_succ]
        refine hSkip (i := 6) (some 41) rfl rfl (by kernel_rfl) (by kernel_rfl) (by kernel_rfl) (fun _ _ _ h => h) (by rfl) (by assumption) ?_
        try simp only [Act.put, List.setIfInBounds_toArray, List.set_cons_zero, List.set_cons_succ]
        refine hSkip (i := 7) (some 42) rfl rfl (by kernel_rfl) (by kernel_rfl) (by kernel_rfl) (fun _ _ _ h => h) (by rfl) (by assumption) ?_
        try simp only [Act.put, List.setIfInBounds_toArray, List.set_cons_zero, List.set_cons_succ]
        refine hSkip (i := 8) (some 43) rfl rfl (by kernel_rfl) (by kernel_rfl) (by kernel_rfl) (fun _ _ _ h => h) (by rfl) (by assumption) ?_
        try simp only [Act.put, List.setIfInBounds_toArray, List.set_cons_zero, List.set_cons_succ]
        refine hSkip (i := 9) (some 44) rfl rfl (by kernel_rfl) (by kernel_rfl) (by kernel_rfl) (fun _ _ _ h => h) (by rfl) (by assumption) ?_
        try simp only [Act.put, List.setIfInBounds_toArray, List.set_cons_zero, List.set_cons_succ]
        refine hSkip (i := 10) (some 45) rfl rfl (by kernel_rfl) (by kernel_rfl) (by kernel_rfl) (fun _ _ _ h => h) (by rfl) (by assumption) ?_
        try simp only [Act.put, List.setIfInBounds_toArray, List.set_cons_zero, List.set_cons_succ]
        refine hSkip (i := 11) (some 46) rfl rfl (by kernel_rfl) (by kernel_rfl) (by kernel_rfl) (fun _ _ _ h => h) (by rfl) (by assumption) ?_
        try simp only [Act.put, List.setIfInBounds_toArray, List.set_cons_zero, List.set_cons_succ]
        refine hSkip (i := 12) (some 47) rfl rfl (by kernel_rfl) (by kernel_rfl) (by kernel_rfl) (fun _ _ _ h => h) (by rfl) (by assumption) ?_
        try simp only [Act.put, List.setIfInBounds_toArray, List.set_cons_zero, List.set_cons_succ]
        refine hTake (i := 13) (v := ?v13a) (some 48) rfl rfl (by kernel_rfl) (by kernel_rfl) (by kernel_rfl) (fun _ _ _ h => h) (by rfl) (by assumption) ?hy13a ?hn13a
        case hy13a => (intro w hSw; (try dsimp only at hSw); skip; go_simp; try with_reducible rfl)
        try simp only [Act.put, List.setIfInBounds_toArray, List.set_cons_zero, List.set_cons_succ]
        refine hTake (i := 14) (v := ?v14a) (some 6) rfl rfl (by kernel_rfl) (by kernel_rfl) (by kernel_rfl) (fun _ _ _ h => h) (by rfl) (by assumption) ?hy14a ?hn14a
        case hy14a => (intro w hSw; (try dsimp only at hSw); skip; go_simp; try with_reducible rfl)
        try simp only [Act.put, List.setIfInBounds_toArray, List.set_cons_zero, List.set_cons_succ]
        refine hTake (i := 15) (v := ?v15a) (some 7) rfl rfl (by kernel_rfl) (by kernel_rfl) (by kernel_rfl) (fun _ _ _ h => h) (by rfl) (by assumption) ?hy15a ?hn15a
        case hy15a => (intro w hSw; (try dsimp only at hSw); skip; go_simp; try with_reducible rfl)
        try simp only [Act.put, List.setIfInBounds_toArray, List.set_cons_zero, List.set_cons_succ]
        refine wpAnyH_done (by kernel_rfl) ?_ _
        go_wp2
        go_ret2
        exact ⟨by rw [HHE.out, HE.out]; rfl, HB.out.trans (HW.out.drew.mono (by omega))⟩
end Go.Proofs.YtffhkljegopjmaaDoor

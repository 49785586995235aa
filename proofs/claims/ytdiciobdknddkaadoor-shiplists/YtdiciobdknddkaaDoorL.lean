/- the document's Check, Of -/
import Derived.Test.YtdiciobdknddkaaDoorM
namespace Go.Proofs.YtdiciobdknddkaaDoor
open Go.RowKit
set_option linter.unusedVariables false
set_option maxRecDepth 40000 in
set_option maxHeartbeats 8000000 in
/-- the document's Check -/
theorem rcheck_any (a : Option Addr) (len cap : Nat) (l : List Sh) (w : World) (h : IsH w a len cap l) : Calls Tryd.prog 21 #[.slice a len cap] w fun e w' => e = .returned (.int .i64 (checkE l)) ∧ Below w.heap.size w w' := by
  have HV := hide h
  have HLN := hide h.1
  have hcap := h.2.1
  have hcm : cap ≤ 9223372036854775807 := h.2.2.1
  have HT : Hid (checkE l = if goodL 0 l = true then 0 else 2) := hide rfl
  generalize checkE l = r at *
  have HB := hide (Below.refl w.heap.size w)
  have hcm' : (cap : Int) ≤ 9223372036854775807 := by omega
  clear h
  by_cases hbig : 1024 < len
  · have HF : Hid (goodL 0 l = false) := hide (by
      rw [Bool.eq_false_iff]
      intro e
      have := ((goodL_iff l 0).1 e).len0
      rw [HLN.out] at this
      omega)
    go_enter Tryd.func21, Tryd.ntmps21
    go_wp2
    go_ret
    exact ⟨ret_int (by rw [HT.out, HF.out]; rfl), HB.out⟩
  go_enter Tryd.func21, Tryd.ntmps21
  go_wp2
  go_loopw [10] (fun i wr => ∃ (k : Nat) (la : Int), k ≤ len ∧ i = .int .i64 k ∧ Hid (goodL 0 l = goodL la (l.drop k)) ∧ Hid (k = 0 → la = 0) ∧ Hid (0 < k → la = (l.getD (k - 1) Sh0).od) ∧ Hid (Below w.heap.size w wr)) (fun i _ => len - (intOf i).toNat)
  case atStart => exact ⟨0, 0, by omega, rfl, hide (by simp), hide (fun _ => rfl), hide (fun h => by omega), HB⟩
  case round =>
    obtain ⟨k, la, hk, rfl, HA, HZ, HP, HW⟩ := hrel
    by_cases hlt : k < len
    · have HD := hide (drop_getD l k (by rw [HLN.out]; exact hlt))
      obtain ⟨bs, off, rfl, hbs, z0⟩ := (HV.out.below' HW.out).2.2.2.2.1 k hlt
      generalize hx : l.getD k Sh0 = x at *
      have HX := hide hx
      clear hx
      obtain ⟨x1, x2⟩ := x
      obtain ⟨z1, z2⟩ := z0
      simp only at z1 z2
      have HG : Hid (goodL 0 l = (decide (la < x1) && (orB x1 && (stB x2 && (decide (¬ x2 = 0) && goodL x1 (l.drop (k + 1))))))) := hide (by rw [HA.out, HD.out]; rfl)
      have HW1 : Hid (Below w.heap.size w (wr.alloc (.cells #[.int .i64 x1, .int .u8 x2] 42))) := hide (HW.out.alloc HW.out.size _)
      have HU : Hid (u8B x2) := hide (by
        have := okS_getD HV.out.2.2.2.1 k
        rw [HX.out] at this
        exact this.2)
      have HS : Hid ((wr.alloc (.cells #[.int .i64 x1, .int .u8 x2] 42)).drew.cell? ⟨wr.heap.size, 0, none⟩ = some (.int .i64 x1) ∧ (wr.alloc (.cells #[.int .i64 x1, .int .u8 x2] 42)).drew.cell? ⟨wr.heap.size, 1, none⟩ = some (.int .u8 x2)) := hide ⟨by simp, by simp⟩
      clear HA HD
      by_cases n1 : x1 < 1
      · have D1 : Hid (decide (x1 < 1) = true) := hide (decide_eq_true n1)
        have HF : Hid (goodL 0 l = false) := hide (by rw [HG.out]; rw [show orB x1 = false by simp [orB]; omega]; simp)
        try clear n1
        try clear n2
        try clear n3
        try clear n4
        try clear n5
        go_wp2_with fail
        refine wp_region_held_drew (S := (fun W : World => W.cell? ⟨wr.heap.size, 0, none⟩ = some (.int .i64 x1) ∧ W.cell? ⟨wr.heap.size, 1, none⟩ = some (.int .u8 x2))) (by kernel_rfl) ?hSa (fun hHeld => ?_)
        case hSa => exact HS.out
        refine hTake (i := 0) (v := ?v0a) (some 15) rfl rfl (by kernel_rfl) (by kernel_rfl) (by kernel_rfl) (fun _ _ _ h => h) (by rfl) (by assumption) ?hy0a ?hn0a
        case hy0a => (intro w hSw; (try dsimp only at hSw); obtain ⟨s0, s1⟩ := hSw; have d1 := D1.out; go_simp; try with_reducible rfl)
        try simp only [Act.put, List.setIfInBounds_toArray, List.set_cons_zero, List.set_cons_succ]
        refine hTake (i := 1) (v := ?v1a) (some 16) rfl rfl (by kernel_rfl) (by kernel_rfl) (by kernel_rfl) (fun _ _ _ h => h) (by rfl) (by assumption) ?hy1a ?hn1a
        case hy1a => (intro w hSw; (try dsimp only at hSw); obtain ⟨s0, s1⟩ := hSw; have d1 := D1.out; go_simp; try with_reducible rfl)
        try simp only [Act.put, List.setIfInBounds_toArray, List.set_cons_zero, List.set_cons_succ]
        refine hTake (i := 2) (v := ?v2a) (some 17) rfl rfl (by kernel_rfl) (by kernel_rfl) (by kernel_rfl) (fun _ _ _ h => h) (by rfl) (by assumption) ?hy2a ?hn2a
        case hy2a => (intro w hSw; (try dsimp only at hSw); obtain ⟨s0, s1⟩ := hSw; have d1 := D1.out; go_simp; try with_reducible rfl)
        try simp only [Act.put, List.setIfInBounds_toArray, List.set_cons_zero, List.set_cons_succ]
        refine hTake (i := 3) (v := ?v3a) (some 18) rfl rfl (by kernel_rfl) (by kernel_rfl) (by kernel_rfl) (fun _ _ _ h => h) (by rfl) (by assumption) ?hy3a ?hn3a
        case hy3a => (intro w hSw; (try dsimp only at hSw); obtain ⟨s0, s1⟩ := hSw; have d1 := D1.out; go_simp; try with_reducible rfl)
        try simp only [Act.put, List.setIfInBounds_toArray, List.set_cons_zero, List.set_cons_succ]
        refine hSkip (i := 4) (some 19) rfl rfl (by kernel_rfl) (by kernel_rfl) (by kernel_rfl) (fun _ _ _ h => h) (by rfl) (by assumption) ?_
        try simp only [Act.put, List.setIfInBounds_toArray, List.set_cons_zero, List.set_cons_succ]
        refine hSkip (i := 5) (some 20) rfl rfl (by kernel_rfl) (by kernel_rfl) (by kernel_rfl) (fun _ _ _ h => h) (by rfl) (by assumption) ?_
        try simp only [Act.put, List.setIfInBounds_toArray, List.set_cons_zero, List.set_cons_succ]
        refine hSkip (i := 6) (some 21) rfl rfl (by kernel_rfl) (by kernel_rfl) (by kernel_rfl) (fun _ _ _ h => h) (by rfl) (by assumption) ?_
        try simp only [Act.put, List.setIfInBounds_toArray, List.set_cons_zero, List.set_cons_succ]
        refine hTake (i := 7) (v := ?v7a) (some 22) rfl rfl (by kernel_rfl) (by kernel_rfl) (by kernel_rfl) (fun _ _ _ h => h) (by rfl) (by assumption) ?hy7a ?hn7a
        case hy7a => (intro w hSw; (try dsimp only at hSw); obtain ⟨s0, s1⟩ := hSw; have d1 := D1.out; go_simp; try with_reducible rfl)
        try simp only [Act.put, List.setIfInBounds_toArray, List.set_cons_zero, List.set_cons_succ]
        refine hTake (i := 8) (v := ?v8a) (some 23) rfl rfl (by kernel_rfl) (by kernel_rfl) (by kernel_rfl) (fun _ _ _ h => h) (by rfl) (by assumption) ?hy8a ?hn8a
        case hy8a => (intro w hSw; (try dsimp only at hSw); obtain ⟨s0, s1⟩ := hSw; have d1 := D1.out; go_simp; try with_reducible rfl)
        try simp only [Act.put, List.setIfInBounds_toArray, List.set_cons_zero, List.set_cons_succ]
        refine hSkip (i := 9) (some 24) rfl rfl (by kernel_rfl) (by kernel_rfl) (by kernel_rfl) (fun _ _ _ h => h) (by rfl) (by assumption) ?_
        try simp only [Act.put, List.setIfInBounds_toArray, List.set_cons_zero, List.set_cons_succ]
        refine hSkip (i := 10) (some 25) rfl rfl (by kernel_rfl) (by kernel_rfl) (by kernel_rfl) (fun _ _ _ h => h) (by rfl) (by assumption) ?_
        try simp only [Act.put, List.setIfInBounds_toArray, List.set_cons_zero, List.set_cons_succ]
        refine hSkip (i := 11) (some 26) rfl rfl (by kernel_rfl) (by kernel_rfl) (by kernel_rfl) (fun _ _ _ h => h) (by rfl) (by assumption) ?_
        try simp only [Act.put, List.setIfInBounds_toArray, List.set_cons_zero, List.set_cons_succ]
        refine hTake (i := 12) (v := ?v12a) (some 27) rfl rfl (by kernel_rfl) (by kernel_rfl) (by kernel_rfl) (fun _ _ _ h => h) (by rfl) (by assumption) ?hy12a ?hn12a
        case hy12a => (intro w hSw; (try dsimp only at hSw); obtain ⟨s0, s1⟩ := hSw; have d1 := D1.out; go_simp; try with_reducible rfl)
        try simp only [Act.put, List.setIfInBounds_toArray, List.set_cons_zero, List.set_cons_succ]
        refine hTake (i := 13) (v := ?v13a) (some 28) rfl rfl (by kernel_rfl) (by kernel_rfl) (by kernel_rfl) (fun _ _ _ h => h) (by rfl) (by assumption) ?hy13a ?hn13a
        case hy13a => (intro w hSw; (try dsimp only at hSw); obtain ⟨s0, s1⟩ := hSw; have d1 := D1.out; go_simp; try with_reducible rfl)
        try simp only [Act.put, List.setIfInBounds_toArray, List.set_cons_zero, List.set_cons_succ]
        refine hSkip (i := 14) (some 29) rfl rfl (by kernel_rfl) (by kernel_rfl) (by kernel_rfl) (fun _ _ _ h => h) (by rfl) (by assumption) ?_
        try simp only [Act.put, List.setIfInBounds_toArray, List.set_cons_zero, List.set_cons_succ]
        refine hSkip (i := 15) (some 30) rfl rfl (by kernel_rfl) (by kernel_rfl) (by kernel_rfl) (fun _ _ _ h => h) (by rfl) (by assumption) ?_
        try simp only [Act.put, List.setIfInBounds_toArray, List.set_cons_zero, List.set_cons_succ]
        refine hSkip (i := 16) (some 31) rfl rfl (by kernel_rfl) (by kernel_rfl) (by kernel_rfl) (fun _ _ _ h => h) (by rfl) (by assumption) ?_
        try simp only [Act.put, List.setIfInBounds_toArray, List.set_cons_zero, List.set_cons_succ]
        refine hTake (i := 17) (v := ?v17a) (some 32) rfl rfl (by kernel_rfl) (by kernel_rfl) (by kernel_rfl) (fun _ _ _ h => h) (by rfl) (by assumption) ?hy17a ?hn17a
        case hy17a => (intro w hSw; (try dsimp only at hSw); obtain ⟨s0, s1⟩ := hSw; have d1 := D1.out; go_simp; try with_reducible rfl)
        try simp only [Act.put, List.setIfInBounds_toArray, List.set_cons_zero, List.set_cons_succ]
        refine hTake (i := 18) (v := ?v18a) (some 33) rfl rfl (by kernel_rfl) (by kernel_rfl) (by kernel_rfl) (fun _ _ _ h => h) (by rfl) (by assumption) ?hy18a ?hn18a
        case hy18a => (intro w hSw; (try dsimp only at hSw); obtain ⟨s0, s1⟩ := hSw; have d1 := D1.out; go_simp; try with_reducible rfl)
        try simp only [Act.put, List.setIfInBounds_toArray, List.set_cons_zero, List.set_cons_succ]
        refine hSkip (i := 19) (some 34) rfl rfl (by kernel_rfl) (by kernel_rfl) (by kernel_rfl) (fun _ _ _ h => h) (by rfl) (by assumption) ?_
        try simp only [Act.put, List.setIfInBounds_toArray, List.set_cons_zero, List.set_cons_succ]
        refine hSkip (i := 20) (some 35) rfl rfl (by kernel_rfl) (by kernel_rfl) (by kernel_rfl) (fun _ _ _ h => h) (by rfl) (by assumption) ?_
        try simp only [Act.put, List.setIfInBounds_toArray, List.set_cons_zero, List.set_cons_succ]
        refine hSkip (i := 21) (some 36) rfl rfl (by kernel_rfl) (by kernel_rfl) (by kernel_rfl) (fun _ _ _ h => h) (by rfl) (by assumption) ?_
        try simp only [Act.put, List.setIfInBounds_toArray, List.set_cons_zero, List.set_cons_succ]
        refine hSkip (i := 22) (some 37) rfl rfl (by kernel_rfl) (by kernel_rfl) (by kernel_rfl) (fun _ _ _ h => h) (by rfl) (by assumption) ?_
        try simp only [Act.put, List.setIfInBounds_toArray, List.set_cons_zero, List.set_cons_succ]
        refine hSkip (i := 23) (some 38) rfl rfl (by kernel_rfl) (by kernel_rfl) (by kernel_rfl) (fun _ _ _ h => h) (by rfl) (by assumption) ?_
        try simp only [Act.put, List.setIfInBounds_toArray, List.set_cons_zero, List.set_cons_succ]
        refine hSkip (i := 24) (some 39) rfl rfl (by kernel_rfl) (by kernel_rfl) (by kernel_rfl) (fun _ _ _ h => h) (by rfl) (by assumption) ?_
        try simp only [Act.put, List.setIfInBounds_toArray, List.set_cons_zero, List.set_cons_succ]
        refine hSkip (i := 25) (some 40) rfl rfl (by kernel_rfl) (by kernel_rfl) (by kernel_rfl) (fun _ _ _ h => h) (by rfl) (by assumption) ?_
        try simp only [Act.put, List.setIfInBounds_toArray, List.set_cons_zero, List.set_cons_succ]
        refine hSkip (i := 26) (some 41) rfl rfl (by kernel_rfl) (by kernel_rfl) (by kernel_rfl) (fun _ _ _ h => h) (by rfl) (by assumption) ?_
        try simp only [Act.put, List.setIfInBounds_toArray, List.set_cons_zero, List.set_cons_succ]
        refine hSkip (i := 27) (some 42) rfl rfl (by kernel_rfl) (by kernel_rfl) (by kernel_rfl) (fun _ _ _ h => h) (by rfl) (by assumption) ?_
        try simp only [Act.put, List.setIfInBounds_toArray, List.set_cons_zero, List.set_cons_succ]
        refine hSkip (i := 28) (some 43) rfl rfl (by kernel_rfl) (by kernel_rfl) (by kernel_rfl) (fun _ _ _ h => h) (by rfl) (by assumption) ?_
        try simp only [Act.put, List.setIfInBounds_toArray, List.set_cons_zero, List.set_cons_succ]
        refine hSkip (i := 29) (some 44) rfl rfl (by kernel_rfl) (by kernel_rfl) (by kernel_rfl) (fun _ _ _ h => h) (by rfl) (by assumption) ?_
        try simp only [Act.put, List.setIfInBounds_toArray, List.set_cons_zero, List.set_cons_succ]
        refine hSkip (i := 30) (some 45) rfl rfl (by kernel_rfl) (by kernel_rfl) (by kernel_rfl) (fun _ _ _ h => h) (by rfl) (by assumption) ?_
        try simp only [Act.put, List.setIfInBounds_toArray, List.set_cons_zero, List.set_cons_succ]
        refine hSkip (i := 31) (some 46) rfl rfl (by kernel_rfl) (by kernel_rfl) (by kernel_rfl) (fun _ _ _ h => h) (by rfl) (by assumption) ?_
        try simp only [Act.put, List.setIfInBounds_toArray, List.set_cons_zero, List.set_cons_succ]
        refine hTake (i := 32) (v := ?v32a) (some 47) rfl rfl (by kernel_rfl) (by kernel_rfl) (by kernel_rfl) (fun _ _ _ h => h) (by rfl) (by assumption) ?hy32a ?hn32a
        case hy32a => (intro w hSw; (try dsimp only at hSw); obtain ⟨s0, s1⟩ := hSw; have d1 := D1.out; go_simp; try with_reducible rfl)
        try simp only [Act.put, List.setIfInBounds_toArray, List.set_cons_zero, List.set_cons_succ]
        refine wpAnyH_done (by kernel_rfl) ?_ _
        go_wp2
        go_ret
        exact ⟨ret_int (by rw [HT.out, HF.out]; rfl), HW1.out.drew⟩
      have D1 : Hid (decide (x1 < 1) = false) := hide (decide_eq_false n1)
      by_cases n2 : 1024 < x1
      · have D2 : Hid (decide (1024 < x1) = true) := hide (decide_eq_true n2)
        have HF : Hid (goodL 0 l = false) := hide (by rw [HG.out]; rw [show orB x1 = false by simp [orB]; omega]; simp)
        try clear n1
        try clear n2
        try clear n3
        try clear n4
        try clear n5
        go_wp2_with fail
        refine wp_region_held_drew (S := (fun W : World => W.cell? ⟨wr.heap.size, 0, none⟩ = some (.int .i64 x1) ∧ W.cell? ⟨wr.heap.size, 1, none⟩ = some (.int .u8 x2))) (by kernel_rfl) ?hSb (fun hHeld => ?_)
        case hSb => exact HS.out
        refine hTake (i := 0) (v := ?v0b) (some 15) rfl rfl (by kernel_rfl) (by kernel_rfl) (by kernel_rfl) (fun _ _ _ h => h) (by rfl) (by assumption) ?hy0b ?hn0b
        case hy0b => (intro w hSw; (try dsimp only at hSw); obtain ⟨s0, s1⟩ := hSw; have d1 := D1.out; have d2 := D2.out; go_simp; try with_reducible rfl)
        try simp only [Act.put, List.setIfInBounds_toArray, List.set_cons_zero, List.set_cons_succ]
        refine hTake (i := 1) (v := ?v1b) (some 16) rfl rfl (by kernel_rfl) (by kernel_rfl) (by kernel_rfl) (fun _ _ _ h => h) (by rfl) (by assumption) ?hy1b ?hn1b
        case hy1b => (intro w hSw; (try dsimp only at hSw); obtain ⟨s0, s1⟩ := hSw; have d1 := D1.out; have d2 := D2.out; go_simp; try with_reducible rfl)
        try simp only [Act.put, List.setIfInBounds_toArray, List.set_cons_zero, List.set_cons_succ]
        refine hTake (i := 2) (v := ?v2b) (some 17) rfl rfl (by kernel_rfl) (by kernel_rfl) (by kernel_rfl) (fun _ _ _ h => h) (by rfl) (by assumption) ?hy2b ?hn2b
        case hy2b => (intro w hSw; (try dsimp only at hSw); obtain ⟨s0, s1⟩ := hSw; have d1 := D1.out; have d2 := D2.out; go_simp; try with_reducible rfl)
        try simp only [Act.put, List.setIfInBounds_toArray, List.set_cons_zero, List.set_cons_succ]
        refine hTake (i := 3) (v := ?v3b) (some 18) rfl rfl (by kernel_rfl) (by kernel_rfl) (by kernel_rfl) (fun _ _ _ h => h) (by rfl) (by assumption) ?hy3b ?hn3b
        case hy3b => (intro w hSw; (try dsimp only at hSw); obtain ⟨s0, s1⟩ := hSw; have d1 := D1.out; have d2 := D2.out; go_simp; try with_reducible rfl)
        try simp only [Act.put, List.setIfInBounds_toArray, List.set_cons_zero, List.set_cons_succ]
        refine hTake (i := 4) (v := ?v4b) (some 19) rfl rfl (by kernel_rfl) (by kernel_rfl) (by kernel_rfl) (fun _ _ _ h => h) (by rfl) (by assumption) ?hy4b ?hn4b
        case hy4b => (intro w hSw; (try dsimp only at hSw); obtain ⟨s0, s1⟩ := hSw; have d1 := D1.out; have d2 := D2.out; go_simp; try with_reducible rfl)
        try simp only [Act.put, List.setIfInBounds_toArray, List.set_cons_zero, List.set_cons_succ]
        refine hTake (i := 5) (v := ?v5b) (some 20) rfl rfl (by kernel_rfl) (by kernel_rfl) (by kernel_rfl) (fun _ _ _ h => h) (by rfl) (by assumption) ?hy5b ?hn5b
        case hy5b => (intro w hSw; (try dsimp only at hSw); obtain ⟨s0, s1⟩ := hSw; have d1 := D1.out; have d2 := D2.out; go_simp; try with_reducible rfl)
        try simp only [Act.put, List.setIfInBounds_toArray, List.set_cons_zero, List.set_cons_succ]
        refine hTake (i := 6) (v := ?v6b) (some 21) rfl rfl (by kernel_rfl) (by kernel_rfl) (by kernel_rfl) (fun _ _ _ h => h) (by rfl) (by assumption) ?hy6b ?hn6b
        case hy6b => (intro w hSw; (try dsimp only at hSw); obtain ⟨s0, s1⟩ := hSw; have d1 := D1.out; have d2 := D2.out; go_simp; try with_reducible rfl)
        try simp only [Act.put, List.setIfInBounds_toArray, List.set_cons_zero, List.set_cons_succ]
        refine hTake (i := 7) (v := ?v7b) (some 22) rfl rfl (by kernel_rfl) (by kernel_rfl) (by kernel_rfl) (fun _ _ _ h => h) (by rfl) (by assumption) ?hy7b ?hn7b
        case hy7b => (intro w hSw; (try dsimp only at hSw); obtain ⟨s0, s1⟩ := hSw; have d1 := D1.out; have d2 := D2.out; go_simp; try with_reducible rfl)
        try simp only [Act.put, List.setIfInBounds_toArray, List.set_cons_zero, List.set_cons_succ]
        refine hTake (i := 8) (v := ?v8b) (some 23) rfl rfl (by kernel_rfl) (by kernel_rfl) (by kernel_rfl) (fun _ _ _ h => h) (by rfl) (by assumption) ?hy8b ?hn8b
        case hy8b => (intro w hSw; (try dsimp only at hSw); obtain ⟨s0, s1⟩ := hSw; have d1 := D1.out; have d2 := D2.out; go_simp; try with_reducible rfl)
        try simp only [Act.put, List.setIfInBounds_toArray, List.set_cons_zero, List.set_cons_succ]
        refine hSkip (i := 9) (some 24) rfl rfl (by kernel_rfl) (by kernel_rfl) (by kernel_rfl) (fun _ _ _ h => h) (by rfl) (by assumption) ?_
        try simp only [Act.put, List.setIfInBounds_toArray, List.set_cons_zero, List.set_cons_succ]
        refine hSkip (i := 10) (some 25) rfl rfl (by kernel_rfl) (by kernel_rfl) (by kernel_rfl) (fun _ _ _ h => h) (by rfl) (by assumption) ?_
        try simp only [Act.put, List.setIfInBounds_toArray, List.set_cons_zero, List.set_cons_succ]
        refine hSkip (i := 11) (some 26) rfl rfl (by kernel_rfl) (by kernel_rfl) (by kernel_rfl) (fun _ _ _ h => h) (by rfl) (by assumption) ?_
        try simp only [Act.put, List.setIfInBounds_toArray, List.set_cons_zero, List.set_cons_succ]
        refine hTake (i := 12) (v := ?v12b) (some 27) rfl rfl (by kernel_rfl) (by kernel_rfl) (by kernel_rfl) (fun _ _ _ h => h) (by rfl) (by assumption) ?hy12b ?hn12b
        case hy12b => (intro w hSw; (try dsimp only at hSw); obtain ⟨s0, s1⟩ := hSw; have d1 := D1.out; have d2 := D2.out; go_simp; try with_reducible rfl)
        try simp only [Act.put, List.setIfInBounds_toArray, List.set_cons_zero, List.set_cons_succ]
        refine hTake (i := 13) (v := ?v13b) (some 28) rfl rfl (by kernel_rfl) (by kernel_rfl) (by kernel_rfl) (fun _ _ _ h => h) (by rfl) (by assumption) ?hy13b ?hn13b
        case hy13b => (intro w hSw; (try dsimp only at hSw); obtain ⟨s0, s1⟩ := hSw; have d1 := D1.out; have d2 := D2.out; go_simp; try with_reducible rfl)
        try simp only [Act.put, List.setIfInBounds_toArray, List.set_cons_zero, List.set_cons_succ]
        refine hSkip (i := 14) (some 29) rfl rfl (by kernel_rfl) (by kernel_rfl) (by kernel_rfl) (fun _ _ _ h => h) (by rfl) (by assumption) ?_
        try simp only [Act.put, List.setIfInBounds_toArray, List.set_cons_zero, List.set_cons_succ]
        refine hSkip (i := 15) (some 30) rfl rfl (by kernel_rfl) (by kernel_rfl) (by kernel_rfl) (fun _ _ _ h => h) (by rfl) (by assumption) ?_
        try simp only [Act.put, List.setIfInBounds_toArray, List.set_cons_zero, List.set_cons_succ]
        refine hSkip (i := 16) (some 31) rfl rfl (by kernel_rfl) (by kernel_rfl) (by kernel_rfl) (fun _ _ _ h => h) (by rfl) (by assumption) ?_
        try simp only [Act.put, List.setIfInBounds_toArray, List.set_cons_zero, List.set_cons_succ]
        refine hTake (i := 17) (v := ?v17b) (some 32) rfl rfl (by kernel_rfl) (by kernel_rfl) (by kernel_rfl) (fun _ _ _ h => h) (by rfl) (by assumption) ?hy17b ?hn17b
        case hy17b => (intro w hSw; (try dsimp only at hSw); obtain ⟨s0, s1⟩ := hSw; have d1 := D1.out; have d2 := D2.out; go_simp; try with_reducible rfl)
        try simp only [Act.put, List.setIfInBounds_toArray, List.set_cons_zero, List.set_cons_succ]
        refine hTake (i := 18) (v := ?v18b) (some 33) rfl rfl (by kernel_rfl) (by kernel_rfl) (by kernel_rfl) (fun _ _ _ h => h) (by rfl) (by assumption) ?hy18b ?hn18b
        case hy18b => (intro w hSw; (try dsimp only at hSw); obtain ⟨s0, s1⟩ := hSw; have d1 := D1.out; have d2 := D2.out; go_simp; try with_reducible rfl)
        try simp only [Act.put, List.setIfInBounds_toArray, List.set_cons_zero, List.set_cons_succ]
        refine hSkip (i := 19) (some 34) rfl rfl (by kernel_rfl) (by kernel_rfl) (by kernel_rfl) (fun _ _ _ h => h) (by rfl) (by assumption) ?_
        try simp only [Act.put, List.setIfInBounds_toArray, List.set_cons_zero, List.set_cons_succ]
        refine hSkip (i := 20) (some 35) rfl rfl (by kernel_rfl) (by kernel_rfl) (by kernel_rfl) (fun _ _ _ h => h) (by rfl) (by assumption) ?_
        try simp only [Act.put, List.setIfInBounds_toArray, List.set_cons_zero, List.set_cons_succ]
        refine hSkip (i := 21) (some 36) rfl rfl (by kernel_rfl) (by kernel_rfl) (by kernel_rfl) (fun _ _ _ h => h) (by rfl) (by assumption) ?_
        try simp only [Act.put, List.setIfInBounds_toArray, List.set_cons_zero, List.set_cons_succ]
        refine hSkip (i := 22) (some 37) rfl rfl (by kernel_rfl) (by kernel_rfl) (by kernel_rfl) (fun _ _ _ h => h) (by rfl) (by assumption) ?_
        try simp only [Act.put, List.setIfInBounds_toArray, List.set_cons_zero, List.set_cons_succ]
        refine hSkip (i := 23) (some 38) rfl rfl (by kernel_rfl) (by kernel_rfl) (by kernel_rfl) (fun _ _ _ h => h) (by rfl) (by assumption) ?_
        try simp only [Act.put, List.setIfInBounds_toArray, List.set_cons_zero, List.set_cons_succ]
        refine hSkip (i := 24) (some 39) rfl rfl (by kernel_rfl) (by kernel_rfl) (by kernel_rfl) (fun _ _ _ h => h) (by rfl) (by assumption) ?_
        try simp only [Act.put, List.setIfInBounds_toArray, List.set_cons_zero, List.set_cons_succ]
        refine hSkip (i := 25) (some 40) rfl rfl (by kernel_rfl) (by kernel_rfl) (by kernel_rfl) (fun _ _ _ h => h) (by rfl) (by assumption) ?_
        try simp only [Act.put, List.setIfInBounds_toArray, List.set_cons_zero, List.set_cons_succ]
        refine hSkip (i := 26) (some 41) rfl rfl (by kernel_rfl) (by kernel_rfl) (by kernel_rfl) (fun _ _ _ h => h) (by rfl) (by assumption) ?_
        try simp only [Act.put, List.setIfInBounds_toArray, List.set_cons_zero, List.set_cons_succ]
        refine hSkip (i := 27) (some 42) rfl rfl (by kernel_rfl) (by kernel_rfl) (by kernel_rfl) (fun _ _ _ h => h) (by rfl) (by assumption) ?_
        try simp only [Act.put, List.setIfInBounds_toArray, List.set_cons_zero, List.set_cons_succ]
        refine hSkip (i := 28) (some 43) rfl rfl (by kernel_rfl) (by kernel_rfl) (by kernel_rfl) (fun _ _ _ h => h) (by rfl) (by assumption) ?_
        try simp only [Act.put, List.setIfInBounds_toArray, List.set_cons_zero, List.set_cons_succ]
        refine hSkip (i := 29) (some 44) rfl rfl (by kernel_rfl) (by kernel_rfl) (by kernel_rfl) (fun _ _ _ h => h) (by rfl) (by assumption) ?_
        try simp only [Act.put, List.setIfInBounds_toArray, List.set_cons_zero, List.set_cons_succ]
        refine hSkip (i := 30) (some 45) rfl rfl (by kernel_rfl) (by kernel_rfl) (by kernel_rfl) (fun _ _ _ h => h) (by rfl) (by assumption) ?_
        try simp only [Act.put, List.setIfInBounds_toArray, List.set_cons_zero, List.set_cons_succ]
        refine hSkip (i := 31) (some 46) rfl rfl (by kernel_rfl) (by kernel_rfl) (by kernel_rfl) (fun _ _ _ h => h) (by rfl) (by assumption) ?_
        try simp only [Act.put, List.setIfInBounds_toArray, List.set_cons_zero, List.set_cons_succ]
        refine hTake (i := 32) (v := ?v32b) (some 47) rfl rfl (by kernel_rfl) (by kernel_rfl) (by kernel_rfl) (fun _ _ _ h => h) (by rfl) (by assumption) ?hy32b ?hn32b
        case hy32b => (intro w hSw; (try dsimp only at hSw); obtain ⟨s0, s1⟩ := hSw; have d1 := D1.out; have d2 := D2.out; go_simp; try with_reducible rfl)
        try simp only [Act.put, List.setIfInBounds_toArray, List.set_cons_zero, List.set_cons_succ]
        refine wpAnyH_done (by kernel_rfl) ?_ _
        go_wp2
        go_ret
        exact ⟨ret_int (by rw [HT.out, HF.out]; rfl), HW1.out.drew⟩
      have HO : Hid (orB x1 = true) := hide (by simp [orB]; omega)
      have D2 : Hid (decide (1024 < x1) = false) := hide (decide_eq_false n2)
      by_cases n3 : x2 < 1
      · have N3 : Hid (x2 = 0) := hide (by have := HU.out; unfold u8B at this; omega)
        have D3 : Hid (decide (x2 < 1) = true) := hide (decide_eq_true n3)
        have HF : Hid (goodL 0 l = false) := hide (by rw [HG.out]; rw [N3.out]; simp)
        try clear n1
        try clear n2
        try clear n3
        try clear n4
        try clear n5
        go_wp2_with fail
        refine wp_region_held_drew (S := (fun W : World => W.cell? ⟨wr.heap.size, 0, none⟩ = some (.int .i64 x1) ∧ W.cell? ⟨wr.heap.size, 1, none⟩ = some (.int .u8 x2))) (by kernel_rfl) ?hSc (fun hHeld => ?_)
        case hSc => exact HS.out
        refine hTake (i := 0) (v := ?v0c) (some 15) rfl rfl (by kernel_rfl) (by kernel_rfl) (by kernel_rfl) (fun _ _ _ h => h) (by rfl) (by assumption) ?hy0c ?hn0c
        case hy0c => (intro w hSw; (try dsimp only at hSw); obtain ⟨s0, s1⟩ := hSw; have d1 := D1.out; have d2 := D2.out; have d3 := D3.out; go_simp; try with_reducible rfl)
        try simp only [Act.put, List.setIfInBounds_toArray, List.set_cons_zero, List.set_cons_succ]
        refine hTake (i := 1) (v := ?v1c) (some 16) rfl rfl (by kernel_rfl) (by kernel_rfl) (by kernel_rfl) (fun _ _ _ h => h) (by rfl) (by assumption) ?hy1c ?hn1c
        case hy1c => (intro w hSw; (try dsimp only at hSw); obtain ⟨s0, s1⟩ := hSw; have d1 := D1.out; have d2 := D2.out; have d3 := D3.out; go_simp; try with_reducible rfl)
        try simp only [Act.put, List.setIfInBounds_toArray, List.set_cons_zero, List.set_cons_succ]
        refine hTake (i := 2) (v := ?v2c) (some 17) rfl rfl (by kernel_rfl) (by kernel_rfl) (by kernel_rfl) (fun _ _ _ h => h) (by rfl) (by assumption) ?hy2c ?hn2c
        case hy2c => (intro w hSw; (try dsimp only at hSw); obtain ⟨s0, s1⟩ := hSw; have d1 := D1.out; have d2 := D2.out; have d3 := D3.out; go_simp; try with_reducible rfl)
        try simp only [Act.put, List.setIfInBounds_toArray, List.set_cons_zero, List.set_cons_succ]
        refine hTake (i := 3) (v := ?v3c) (some 18) rfl rfl (by kernel_rfl) (by kernel_rfl) (by kernel_rfl) (fun _ _ _ h => h) (by rfl) (by assumption) ?hy3c ?hn3c
        case hy3c => (intro w hSw; (try dsimp only at hSw); obtain ⟨s0, s1⟩ := hSw; have d1 := D1.out; have d2 := D2.out; have d3 := D3.out; go_simp; try with_reducible rfl)
        try simp only [Act.put, List.setIfInBounds_toArray, List.set_cons_zero, List.set_cons_succ]
        refine hTake (i := 4) (v := ?v4c) (some 19) rfl rfl (by kernel_rfl) (by kernel_rfl) (by kernel_rfl) (fun _ _ _ h => h) (by rfl) (by assumption) ?hy4c ?hn4c
        case hy4c => (intro w hSw; (try dsimp only at hSw); obtain ⟨s0, s1⟩ := hSw; have d1 := D1.out; have d2 := D2.out; have d3 := D3.out; go_simp; try with_reducible rfl)
        try simp only [Act.put, List.setIfInBounds_toArray, List.set_cons_zero, List.set_cons_succ]
        refine hTake (i := 5) (v := ?v5c) (some 20) rfl rfl (by kernel_rfl) (by kernel_rfl) (by kernel_rfl) (fun _ _ _ h => h) (by rfl) (by assumption) ?hy5c ?hn5c
        case hy5c => (intro w hSw; (try dsimp only at hSw); obtain ⟨s0, s1⟩ := hSw; have d1 := D1.out; have d2 := D2.out; have d3 := D3.out; go_simp; try with_reducible rfl)
        try simp only [Act.put, List.setIfInBounds_toArray, List.set_cons_zero, List.set_cons_succ]
        refine hTake (i := 6) (v := ?v6c) (some 21) rfl rfl (by kernel_rfl) (by kernel_rfl) (by kernel_rfl) (fun _ _ _ h => h) (by rfl) (by assumption) ?hy6c ?hn6c
        case hy6c => (intro w hSw; (try dsimp only at hSw); obtain ⟨s0, s1⟩ := hSw; have d1 := D1.out; have d2 := D2.out; have d3 := D3.out; go_simp; try with_reducible rfl)
        try simp only [Act.put, List.setIfInBounds_toArray, List.set_cons_zero, List.set_cons_succ]
        refine hTake (i := 7) (v := ?v7c) (some 22) rfl rfl (by kernel_rfl) (by kernel_rfl) (by kernel_rfl) (fun _ _ _ h => h) (by rfl) (by assumption) ?hy7c ?hn7c
        case hy7c => (intro w hSw; (try dsimp only at hSw); obtain ⟨s0, s1⟩ := hSw; have d1 := D1.out; have d2 := D2.out; have d3 := D3.out; go_simp; try with_reducible rfl)
        try simp only [Act.put, List.setIfInBounds_toArray, List.set_cons_zero, List.set_cons_succ]
        refine hTake (i := 8) (v := ?v8c) (some 23) rfl rfl (by kernel_rfl) (by kernel_rfl) (by kernel_rfl) (fun _ _ _ h => h) (by rfl) (by assumption) ?hy8c ?hn8c
        case hy8c => (intro w hSw; (try dsimp only at hSw); obtain ⟨s0, s1⟩ := hSw; have d1 := D1.out; have d2 := D2.out; have d3 := D3.out; go_simp; try with_reducible rfl)
        try simp only [Act.put, List.setIfInBounds_toArray, List.set_cons_zero, List.set_cons_succ]
        refine hTake (i := 9) (v := ?v9c) (some 24) rfl rfl (by kernel_rfl) (by kernel_rfl) (by kernel_rfl) (fun _ _ _ h => h) (by rfl) (by assumption) ?hy9c ?hn9c
        case hy9c => (intro w hSw; (try dsimp only at hSw); obtain ⟨s0, s1⟩ := hSw; have d1 := D1.out; have d2 := D2.out; have d3 := D3.out; go_simp; try with_reducible rfl)
        try simp only [Act.put, List.setIfInBounds_toArray, List.set_cons_zero, List.set_cons_succ]
        refine hTake (i := 10) (v := ?v10c) (some 25) rfl rfl (by kernel_rfl) (by kernel_rfl) (by kernel_rfl) (fun _ _ _ h => h) (by rfl) (by assumption) ?hy10c ?hn10c
        case hy10c => (intro w hSw; (try dsimp only at hSw); obtain ⟨s0, s1⟩ := hSw; have d1 := D1.out; have d2 := D2.out; have d3 := D3.out; go_simp; try with_reducible rfl)
        try simp only [Act.put, List.setIfInBounds_toArray, List.set_cons_zero, List.set_cons_succ]
        refine hTake (i := 11) (v := ?v11c) (some 26) rfl rfl (by kernel_rfl) (by kernel_rfl) (by kernel_rfl) (fun _ _ _ h => h) (by rfl) (by assumption) ?hy11c ?hn11c
        case hy11c => (intro w hSw; (try dsimp only at hSw); obtain ⟨s0, s1⟩ := hSw; have d1 := D1.out; have d2 := D2.out; have d3 := D3.out; go_simp; try with_reducible rfl)
        try simp only [Act.put, List.setIfInBounds_toArray, List.set_cons_zero, List.set_cons_succ]
        refine hTake (i := 12) (v := ?v12c) (some 27) rfl rfl (by kernel_rfl) (by kernel_rfl) (by kernel_rfl) (fun _ _ _ h => h) (by rfl) (by assumption) ?hy12c ?hn12c
        case hy12c => (intro w hSw; (try dsimp only at hSw); obtain ⟨s0, s1⟩ := hSw; have d1 := D1.out; have d2 := D2.out; have d3 := D3.out; go_simp; try with_reducible rfl)
        try simp only [Act.put, List.setIfInBounds_toArray, List.set_cons_zero, List.set_cons_succ]
        refine hTake (i := 13) (v := ?v13c) (some 28) rfl rfl (by kernel_rfl) (by kernel_rfl) (by kernel_rfl) (fun _ _ _ h => h) (by rfl) (by assumption) ?hy13c ?hn13c
        case hy13c => (intro w hSw; (try dsimp only at hSw); obtain ⟨s0, s1⟩ := hSw; have d1 := D1.out; have d2 := D2.out; have d3 := D3.out; go_simp; try with_reducible rfl)
        try simp only [Act.put, List.setIfInBounds_toArray, List.set_cons_zero, List.set_cons_succ]
        refine hSkip (i := 14) (some 29) rfl rfl (by kernel_rfl) (by kernel_rfl) (by kernel_rfl) (fun _ _ _ h => h) (by rfl) (by assumption) ?_
        try simp only [Act.put, List.setIfInBounds_toArray, List.set_cons_zero, List.set_cons_succ]
        refine hSkip (i := 15) (some 30) rfl rfl (by kernel_rfl) (by kernel_rfl) (by kernel_rfl) (fun _ _ _ h => h) (by rfl) (by assumption) ?_
        try simp only [Act.put, List.setIfInBounds_toArray, List.set_cons_zero, List.set_cons_succ]
        refine hSkip (i := 16) (some 31) rfl rfl (by kernel_rfl) (by kernel_rfl) (by kernel_rfl) (fun _ _ _ h => h) (by rfl) (by assumption) ?_
        try simp only [Act.put, List.setIfInBounds_toArray, List.set_cons_zero, List.set_cons_succ]
        refine hTake (i := 17) (v := ?v17c) (some 32) rfl rfl (by kernel_rfl) (by kernel_rfl) (by kernel_rfl) (fun _ _ _ h => h) (by rfl) (by assumption) ?hy17c ?hn17c
        case hy17c => (intro w hSw; (try dsimp only at hSw); obtain ⟨s0, s1⟩ := hSw; have d1 := D1.out; have d2 := D2.out; have d3 := D3.out; go_simp; try with_reducible rfl)
        try simp only [Act.put, List.setIfInBounds_toArray, List.set_cons_zero, List.set_cons_succ]
        refine hTake (i := 18) (v := ?v18c) (some 33) rfl rfl (by kernel_rfl) (by kernel_rfl) (by kernel_rfl) (fun _ _ _ h => h) (by rfl) (by assumption) ?hy18c ?hn18c
        case hy18c => (intro w hSw; (try dsimp only at hSw); obtain ⟨s0, s1⟩ := hSw; have d1 := D1.out; have d2 := D2.out; have d3 := D3.out; go_simp; try with_reducible rfl)
        try simp only [Act.put, List.setIfInBounds_toArray, List.set_cons_zero, List.set_cons_succ]
        refine hSkip (i := 19) (some 34) rfl rfl (by kernel_rfl) (by kernel_rfl) (by kernel_rfl) (fun _ _ _ h => h) (by rfl) (by assumption) ?_
        try simp only [Act.put, List.setIfInBounds_toArray, List.set_cons_zero, List.set_cons_succ]
        refine hSkip (i := 20) (some 35) rfl rfl (by kernel_rfl) (by kernel_rfl) (by kernel_rfl) (fun _ _ _ h => h) (by rfl) (by assumption) ?_
        try simp only [Act.put, List.setIfInBounds_toArray, List.set_cons_zero, List.set_cons_succ]
        refine hSkip (i := 21) (some 36) rfl rfl (by kernel_rfl) (by kernel_rfl) (by kernel_rfl) (fun _ _ _ h => h) (by rfl) (by assumption) ?_
        try simp only [Act.put, List.setIfInBounds_toArray, List.set_cons_zero, List.set_cons_succ]
        refine hSkip (i := 22) (some 37) rfl rfl (by kernel_rfl) (by kernel_rfl) (by kernel_rfl) (fun _ _ _ h => h) (by rfl) (by assumption) ?_
        try simp only [Act.put, List.setIfInBounds_toArray, List.set_cons_zero, List.set_cons_succ]
        refine hSkip (i := 23) (some 38) rfl rfl (by kernel_rfl) (by kernel_rfl) (by kernel_rfl) (fun _ _ _ h => h) (by rfl) (by assumption) ?_
        try simp only [Act.put, List.setIfInBounds_toArray, List.set_cons_zero, List.set_cons_succ]
        refine hSkip (i := 24) (some 39) rfl rfl (by kernel_rfl) (by kernel_rfl) (by kernel_rfl) (fun _ _ _ h => h) (by rfl) (by assumption) ?_
        try simp only [Act.put, List.setIfInBounds_toArray, List.set_cons_zero, List.set_cons_succ]
        refine hSkip (i := 25) (some 40) rfl rfl (by kernel_rfl) (by kernel_rfl) (by kernel_rfl) (fun _ _ _ h => h) (by rfl) (by assumption) ?_
        try simp only [Act.put, List.setIfInBounds_toArray, List.set_cons_zero, List.set_cons_succ]
        refine hSkip (i := 26) (some 41) rfl rfl (by kernel_rfl) (by kernel_rfl) (by kernel_rfl) (fun _ _ _ h => h) (by rfl) (by assumption) ?_
        try simp only [Act.put, List.setIfInBounds_toArray, List.set_cons_zero, List.set_cons_succ]
        refine hSkip (i := 27) (some 42) rfl rfl (by kernel_rfl) (by kernel_rfl) (by kernel_rfl) (fun _ _ _ h => h) (by rfl) (by assumption) ?_
        try simp only [Act.put, List.setIfInBounds_toArray, List.set_cons_zero, List.set_cons_succ]
        refine hSkip (i := 28) (some 43) rfl rfl (by kernel_rfl) (by kernel_rfl) (by kernel_rfl) (fun _ _ _ h => h) (by rfl) (by assumption) ?_
        try simp only [Act.put, List.setIfInBounds_toArray, List.set_cons_zero, List.set_cons_succ]
        refine hSkip (i := 29) (some 44) rfl rfl (by kernel_rfl) (by kernel_rfl) (by kernel_rfl) (fun _ _ _ h => h) (by rfl) (by assumption) ?_
        try simp only [Act.put, List.setIfInBounds_toArray, List.set_cons_zero, List.set_cons_succ]
        refine hSkip (i := 30) (some 45) rfl rfl (by kernel_rfl) (by kernel_rfl) (by kernel_rfl) (fun _ _ _ h => h) (by rfl) (by assumption) ?_
        try simp only [Act.put, List.setIfInBounds_toArray, List.set_cons_zero, List.set_cons_succ]
        refine hSkip (i := 31) (some 46) rfl rfl (by kernel_rfl) (by kernel_rfl) (by kernel_rfl) (fun _ _ _ h => h) (by rfl) (by assumption) ?_
        try simp only [Act.put, List.setIfInBounds_toArray, List.set_cons_zero, List.set_cons_succ]
        refine hTake (i := 32) (v := ?v32c) (some 47) rfl rfl (by kernel_rfl) (by kernel_rfl) (by kernel_rfl) (fun _ _ _ h => h) (by rfl) (by assumption) ?hy32c ?hn32c
        case hy32c => (intro w hSw; (try dsimp only at hSw); obtain ⟨s0, s1⟩ := hSw; have d1 := D1.out; have d2 := D2.out; have d3 := D3.out; go_simp; try with_reducible rfl)
        try simp only [Act.put, List.setIfInBounds_toArray, List.set_cons_zero, List.set_cons_succ]
        refine wpAnyH_done (by kernel_rfl) ?_ _
        go_wp2
        go_ret
        exact ⟨ret_int (by rw [HT.out, HF.out]; rfl), HW1.out.drew⟩
      have N3 : Hid (¬ x2 = 0) := hide (by omega)
      have D3 : Hid (decide (x2 < 1) = false) := hide (decide_eq_false n3)
      by_cases n4 : 7 ≤ x2
      · have D4 : Hid (decide (7 ≤ x2) = true) := hide (decide_eq_true n4)
        have HF : Hid (goodL 0 l = false) := hide (by rw [HG.out]; rw [show stB x2 = false by simp [stB]; omega]; simp)
        try clear n1
        try clear n2
        try clear n3
        try clear n4
        try clear n5
        go_wp2_with fail
        refine wp_region_held_drew (S := (fun W : World => W.cell? ⟨wr.heap.size, 0, none⟩ = some (.int .i64 x1) ∧ W.cell? ⟨wr.heap.size, 1, none⟩ = some (.int .u8 x2))) (by kernel_rfl) ?hSd (fun hHeld => ?_)
        case hSd => exact HS.out
        refine hTake (i := 0) (v := ?v0d) (some 15) rfl rfl (by kernel_rfl) (by kernel_rfl) (by kernel_rfl) (fun _ _ _ h => h) (by rfl) (by assumption) ?hy0d ?hn0d
        case hy0d => (intro w hSw; (try dsimp only at hSw); obtain ⟨s0, s1⟩ := hSw; have d1 := D1.out; have d2 := D2.out; have d3 := D3.out; have d4 := D4.out; go_simp; try with_reducible rfl)
        try simp only [Act.put, List.setIfInBounds_toArray, List.set_cons_zero, List.set_cons_succ]
        refine hTake (i := 1) (v := ?v1d) (some 16) rfl rfl (by kernel_rfl) (by kernel_rfl) (by kernel_rfl) (fun _ _ _ h => h) (by rfl) (by assumption) ?hy1d ?hn1d
        case hy1d => (intro w hSw; (try dsimp only at hSw); obtain ⟨s0, s1⟩ := hSw; have d1 := D1.out; have d2 := D2.out; have d3 := D3.out; have d4 := D4.out; go_simp; try with_reducible rfl)
        try simp only [Act.put, List.setIfInBounds_toArray, List.set_cons_zero, List.set_cons_succ]
        refine hTake (i := 2) (v := ?v2d) (some 17) rfl rfl (by kernel_rfl) (by kernel_rfl) (by kernel_rfl) (fun _ _ _ h => h) (by rfl) (by assumption) ?hy2d ?hn2d
        case hy2d => (intro w hSw; (try dsimp only at hSw); obtain ⟨s0, s1⟩ := hSw; have d1 := D1.out; have d2 := D2.out; have d3 := D3.out; have d4 := D4.out; go_simp; try with_reducible rfl)
        try simp only [Act.put, List.setIfInBounds_toArray, List.set_cons_zero, List.set_cons_succ]
        refine hTake (i := 3) (v := ?v3d) (some 18) rfl rfl (by kernel_rfl) (by kernel_rfl) (by kernel_rfl) (fun _ _ _ h => h) (by rfl) (by assumption) ?hy3d ?hn3d
        case hy3d => (intro w hSw; (try dsimp only at hSw); obtain ⟨s0, s1⟩ := hSw; have d1 := D1.out; have d2 := D2.out; have d3 := D3.out; have d4 := D4.out; go_simp; try with_reducible rfl)
        try simp only [Act.put, List.setIfInBounds_toArray, List.set_cons_zero, List.set_cons_succ]
        refine hTake (i := 4) (v := ?v4d) (some 19) rfl rfl (by kernel_rfl) (by kernel_rfl) (by kernel_rfl) (fun _ _ _ h => h) (by rfl) (by assumption) ?hy4d ?hn4d
        case hy4d => (intro w hSw; (try dsimp only at hSw); obtain ⟨s0, s1⟩ := hSw; have d1 := D1.out; have d2 := D2.out; have d3 := D3.out; have d4 := D4.out; go_simp; try with_reducible rfl)
        try simp only [Act.put, List.setIfInBounds_toArray, List.set_cons_zero, List.set_cons_succ]
        refine hTake (i := 5) (v := ?v5d) (some 20) rfl rfl (by kernel_rfl) (by kernel_rfl) (by kernel_rfl) (fun _ _ _ h => h) (by rfl) (by assumption) ?hy5d ?hn5d
        case hy5d => (intro w hSw; (try dsimp only at hSw); obtain ⟨s0, s1⟩ := hSw; have d1 := D1.out; have d2 := D2.out; have d3 := D3.out; have d4 := D4.out; go_simp; try with_reducible rfl)
        try simp only [Act.put, List.setIfInBounds_toArray, List.set_cons_zero, List.set_cons_succ]
        refine hTake (i := 6) (v := ?v6d) (some 21) rfl rfl (by kernel_rfl) (by kernel_rfl) (by kernel_rfl) (fun _ _ _ h => h) (by rfl) (by assumption) ?hy6d ?hn6d
        case hy6d => (intro w hSw; (try dsimp only at hSw); obtain ⟨s0, s1⟩ := hSw; have d1 := D1.out; have d2 := D2.out; have d3 := D3.out; have d4 := D4.out; go_simp; try with_reducible rfl)
        try simp only [Act.put, List.setIfInBounds_toArray, List.set_cons_zero, List.set_cons_succ]
        refine hTake (i := 7) (v := ?v7d) (some 22) rfl rfl (by kernel_rfl) (by kernel_rfl) (by kernel_rfl) (fun _ _ _ h => h) (by rfl) (by assumption) ?hy7d ?hn7d
        case hy7d => (intro w hSw; (try dsimp only at hSw); obtain ⟨s0, s1⟩ := hSw; have d1 := D1.out; have d2 := D2.out; have d3 := D3.out; have d4 := D4.out; go_simp; try with_reducible rfl)
        try simp only [Act.put, List.setIfInBounds_toArray, List.set_cons_zero, List.set_cons_succ]
        refine hTake (i := 8) (v := ?v8d) (some 23) rfl rfl (by kernel_rfl) (by kernel_rfl) (by kernel_rfl) (fun _ _ _ h => h) (by rfl) (by assumption) ?hy8d ?hn8d
        case hy8d => (intro w hSw; (try dsimp only at hSw); obtain ⟨s0, s1⟩ := hSw; have d1 := D1.out; have d2 := D2.out; have d3 := D3.out; have d4 := D4.out; go_simp; try with_reducible rfl)
        try simp only [Act.put, List.setIfInBounds_toArray, List.set_cons_zero, List.set_cons_succ]
        refine hTake (i := 9) (v := ?v9d) (some 24) rfl rfl (by kernel_rfl) (by kernel_rfl) (by kernel_rfl) (fun _ _ _ h => h) (by rfl) (by assumption) ?hy9d ?hn9d
        case hy9d => (intro w hSw; (try dsimp only at hSw); obtain ⟨s0, s1⟩ := hSw; have d1 := D1.out; have d2 := D2.out; have d3 := D3.out; have d4 := D4.out; go_simp; try with_reducible rfl)
        try simp only [Act.put, List.setIfInBounds_toArray, List.set_cons_zero, List.set_cons_succ]
        refine hTake (i := 10) (v := ?v10d) (some 25) rfl rfl (by kernel_rfl) (by kernel_rfl) (by kernel_rfl) (fun _ _ _ h => h) (by rfl) (by assumption) ?hy10d ?hn10d
        case hy10d => (intro w hSw; (try dsimp only at hSw); obtain ⟨s0, s1⟩ := hSw; have d1 := D1.out; have d2 := D2.out; have d3 := D3.out; have d4 := D4.out; go_simp; try with_reducible rfl)
        try simp only [Act.put, List.setIfInBounds_toArray, List.set_cons_zero, List.set_cons_succ]
        refine hTake (i := 11) (v := ?v11d) (some 26) rfl rfl (by kernel_rfl) (by kernel_rfl) (by kernel_rfl) (fun _ _ _ h => h) (by rfl) (by assumption) ?hy11d ?hn11d
        case hy11d => (intro w hSw; (try dsimp only at hSw); obtain ⟨s0, s1⟩ := hSw; have d1 := D1.out; have d2 := D2.out; have d3 := D3.out; have d4 := D4.out; go_simp; try with_reducible rfl)
        try simp only [Act.put, List.setIfInBounds_toArray, List.set_cons_zero, List.set_cons_succ]
        refine hTake (i := 12) (v := ?v12d) (some 27) rfl rfl (by kernel_rfl) (by kernel_rfl) (by kernel_rfl) (fun _ _ _ h => h) (by rfl) (by assumption) ?hy12d ?hn12d
        case hy12d => (intro w hSw; (try dsimp only at hSw); obtain ⟨s0, s1⟩ := hSw; have d1 := D1.out; have d2 := D2.out; have d3 := D3.out; have d4 := D4.out; go_simp; try with_reducible rfl)
        try simp only [Act.put, List.setIfInBounds_toArray, List.set_cons_zero, List.set_cons_succ]
        refine hTake (i := 13) (v := ?v13d) (some 28) rfl rfl (by kernel_rfl) (by kernel_rfl) (by kernel_rfl) (fun _ _ _ h => h) (by rfl) (by assumption) ?hy13d ?hn13d
        case hy13d => (intro w hSw; (try dsimp only at hSw); obtain ⟨s0, s1⟩ := hSw; have d1 := D1.out; have d2 := D2.out; have d3 := D3.out; have d4 := D4.out; go_simp; try with_reducible rfl)
        try simp only [Act.put, List.setIfInBounds_toArray, List.set_cons_zero, List.set_cons_succ]
        refine hTake (i := 14) (v := ?v14d) (some 29) rfl rfl (by kernel_rfl) (by kernel_rfl) (by kernel_rfl) (fun _ _ _ h => h) (by rfl) (by assumption) ?hy14d ?hn14d
        case hy14d => (intro w hSw; (try dsimp only at hSw); obtain ⟨s0, s1⟩ := hSw; have d1 := D1.out; have d2 := D2.out; have d3 := D3.out; have d4 := D4.out; go_simp; try with_reducible rfl)
        try simp only [Act.put, List.setIfInBounds_toArray, List.set_cons_zero, List.set_cons_succ]
        refine hTake (i := 15) (v := ?v15d) (some 30) rfl rfl (by kernel_rfl) (by kernel_rfl) (by kernel_rfl) (fun _ _ _ h => h) (by rfl) (by assumption) ?hy15d ?hn15d
        case hy15d => (intro w hSw; (try dsimp only at hSw); obtain ⟨s0, s1⟩ := hSw; have d1 := D1.out; have d2 := D2.out; have d3 := D3.out; have d4 := D4.out; go_simp; try with_reducible rfl)
        try simp only [Act.put, List.setIfInBounds_toArray, List.set_cons_zero, List.set_cons_succ]
        refine hTake (i := 16) (v := ?v16d) (some 31) rfl rfl (by kernel_rfl) (by kernel_rfl) (by kernel_rfl) (fun _ _ _ h => h) (by rfl) (by assumption) ?hy16d ?hn16d
        case hy16d => (intro w hSw; (try dsimp only at hSw); obtain ⟨s0, s1⟩ := hSw; have d1 := D1.out; have d2 := D2.out; have d3 := D3.out; have d4 := D4.out; go_simp; try with_reducible rfl)
        try simp only [Act.put, List.setIfInBounds_toArray, List.set_cons_zero, List.set_cons_succ]
        refine hTake (i := 17) (v := ?v17d) (some 32) rfl rfl (by kernel_rfl) (by kernel_rfl) (by kernel_rfl) (fun _ _ _ h => h) (by rfl) (by assumption) ?hy17d ?hn17d
        case hy17d => (intro w hSw; (try dsimp only at hSw); obtain ⟨s0, s1⟩ := hSw; have d1 := D1.out; have d2 := D2.out; have d3 := D3.out; have d4 := D4.out; go_simp; try with_reducible rfl)
        try simp only [Act.put, List.setIfInBounds_toArray, List.set_cons_zero, List.set_cons_succ]
        refine hTake (i := 18) (v := ?v18d) (some 33) rfl rfl (by kernel_rfl) (by kernel_rfl) (by kernel_rfl) (fun _ _ _ h => h) (by rfl) (by assumption) ?hy18d ?hn18d
        case hy18d => (intro w hSw; (try dsimp only at hSw); obtain ⟨s0, s1⟩ := hSw; have d1 := D1.out; have d2 := D2.out; have d3 := D3.out; have d4 := D4.out; go_simp; try with_reducible rfl)
        try simp only [Act.put, List.setIfInBounds_toArray, List.set_cons_zero, List.set_cons_succ]
        refine hSkip (i := 19) (some 34) rfl rfl (by kernel_rfl) (by kernel_rfl) (by kernel_rfl) (fun _ _ _ h => h) (by rfl) (by assumption) ?_
        try simp only [Act.put, List.setIfInBounds_toArray, List.set_cons_zero, List.set_cons_succ]
        refine hSkip (i := 20) (some 35) rfl rfl (by kernel_rfl) (by kernel_rfl) (by kernel_rfl) (fun _ _ _ h => h) (by rfl) (by assumption) ?_
        try simp only [Act.put, List.setIfInBounds_toArray, List.set_cons_zero, List.set_cons_succ]
        refine hSkip (i := 21) (some 36) rfl rfl (by kernel_rfl) (by kernel_rfl) (by kernel_rfl) (fun _ _ _ h => h) (by rfl) (by assumption) ?_
        try simp only [Act.put, List.setIfInBounds_toArray, List.set_cons_zero, List.set_cons_succ]
        refine hSkip (i := 22) (some 37) rfl rfl (by kernel_rfl) (by kernel_rfl) (by kernel_rfl) (fun _ _ _ h => h) (by rfl) (by assumption) ?_
        try simp only [Act.put, List.setIfInBounds_toArray, List.set_cons_zero, List.set_cons_succ]
        refine hSkip (i := 23) (some 38) rfl rfl (by kernel_rfl) (by kernel_rfl) (by kernel_rfl) (fun _ _ _ h => h) (by rfl) (by assumption) ?_
        try simp only [Act.put, List.setIfInBounds_toArray, List.set_cons_zero, List.set_cons_succ]
        refine hSkip (i := 24) (some 39) rfl rfl (by kernel_rfl) (by kernel_rfl) (by kernel_rfl) (fun _ _ _ h => h) (by rfl) (by assumption) ?_
        try simp only [Act.put, List.setIfInBounds_toArray, List.set_cons_zero, List.set_cons_succ]
        refine hSkip (i := 25) (some 40) rfl rfl (by kernel_rfl) (by kernel_rfl) (by kernel_rfl) (fun _ _ _ h => h) (by rfl) (by assumption) ?_
        try simp only [Act.put, List.setIfInBounds_toArray, List.set_cons_zero, List.set_cons_succ]
        refine hSkip (i := 26) (some 41) rfl rfl (by kernel_rfl) (by kernel_rfl) (by kernel_rfl) (fun _ _ _ h => h) (by rfl) (by assumption) ?_
        try simp only [Act.put, List.setIfInBounds_toArray, List.set_cons_zero, List.set_cons_succ]
        refine hSkip (i := 27) (some 42) rfl rfl (by kernel_rfl) (by kernel_rfl) (by kernel_rfl) (fun _ _ _ h => h) (by rfl) (by assumption) ?_
        try simp only [Act.put, List.setIfInBounds_toArray, List.set_cons_zero, List.set_cons_succ]
        refine hSkip (i := 28) (some 43) rfl rfl (by kernel_rfl) (by kernel_rfl) (by kernel_rfl) (fun _ _ _ h => h) (by rfl) (by assumption) ?_
        try simp only [Act.put, List.setIfInBounds_toArray, List.set_cons_zero, List.set_cons_succ]
        refine hSkip (i := 29) (some 44) rfl rfl (by kernel_rfl) (by kernel_rfl) (by kernel_rfl) (fun _ _ _ h => h) (by rfl) (by assumption) ?_
        try simp only [Act.put, List.setIfInBounds_toArray, List.set_cons_zero, List.set_cons_succ]
        refine hSkip (i := 30) (some 45) rfl rfl (by kernel_rfl) (by kernel_rfl) (by kernel_rfl) (fun _ _ _ h => h) (by rfl) (by assumption) ?_
        try simp only [Act.put, List.setIfInBounds_toArray, List.set_cons_zero, List.set_cons_succ]
        refine hSkip (i := 31) (some 46) rfl rfl (by kernel_rfl) (by kernel_rfl) (by kernel_rfl) (fun _ _ _ h => h) (by rfl) (by assumption) ?_
        try simp only [Act.put, List.setIfInBounds_toArray, List.set_cons_zero, List.set_cons_succ]
        refine hTake (i := 32) (v := ?v32d) (some 47) rfl rfl (by kernel_rfl) (by kernel_rfl) (by kernel_rfl) (fun _ _ _ h => h) (by rfl) (by assumption) ?hy32d ?hn32d
        case hy32d => (intro w hSw; (try dsimp only at hSw); obtain ⟨s0, s1⟩ := hSw; have d1 := D1.out; have d2 := D2.out; have d3 := D3.out; have d4 := D4.out; go_simp; try with_reducible rfl)
        try simp only [Act.put, List.setIfInBounds_toArray, List.set_cons_zero, List.set_cons_succ]
        refine wpAnyH_done (by kernel_rfl) ?_ _
        go_wp2
        go_ret
        exact ⟨ret_int (by rw [HT.out, HF.out]; rfl), HW1.out.drew⟩
      have N4 : Hid (stB x2 = true) := hide (by simp [stB]; omega)
      have D4 : Hid (decide (7 ≤ x2) = false) := hide (decide_eq_false n4)
      by_cases hk0 : k = 0
      · subst hk0
        obtain rfl := HZ.out rfl
        have N5 : Hid (0 < x1) := hide (by omega)
        simp only [Nat.zero_mul, Nat.add_zero] at z1 z2
        have HF : Hid (goodL 0 l = goodL x1 (l.drop (0 + 1))) := hide (by rw [HG.out]; rw [decide_eq_true N5.out, HO.out, N4.out, decide_eq_true N3.out]; rfl)
        try clear n1
        try clear n2
        try clear n3
        try clear n4
        try clear n5
        go_wp2_with fail
        refine wp_region_held_drew (S := (fun W : World => W.cell? ⟨wr.heap.size, 0, none⟩ = some (.int .i64 x1) ∧ W.cell? ⟨wr.heap.size, 1, none⟩ = some (.int .u8 x2))) (by kernel_rfl) ?hSe (fun hHeld => ?_)
        case hSe => exact HS.out
        refine hTake (i := 0) (v := ?v0e) (some 15) rfl rfl (by kernel_rfl) (by kernel_rfl) (by kernel_rfl) (fun _ _ _ h => h) (by rfl) (by assumption) ?hy0e ?hn0e
        case hy0e => (intro w hSw; (try dsimp only at hSw); obtain ⟨s0, s1⟩ := hSw; have d1 := D1.out; have d2 := D2.out; have d3 := D3.out; have d4 := D4.out; go_simp; try with_reducible rfl)
        try simp only [Act.put, List.setIfInBounds_toArray, List.set_cons_zero, List.set_cons_succ]
        refine hTake (i := 1) (v := ?v1e) (some 16) rfl rfl (by kernel_rfl) (by kernel_rfl) (by kernel_rfl) (fun _ _ _ h => h) (by rfl) (by assumption) ?hy1e ?hn1e
        case hy1e => (intro w hSw; (try dsimp only at hSw); obtain ⟨s0, s1⟩ := hSw; have d1 := D1.out; have d2 := D2.out; have d3 := D3.out; have d4 := D4.out; go_simp; try with_reducible rfl)
        try simp only [Act.put, List.setIfInBounds_toArray, List.set_cons_zero, List.set_cons_succ]
        refine hTake (i := 2) (v := ?v2e) (some 17) rfl rfl (by kernel_rfl) (by kernel_rfl) (by kernel_rfl) (fun _ _ _ h => h) (by rfl) (by assumption) ?hy2e ?hn2e
        case hy2e => (intro w hSw; (try dsimp only at hSw); obtain ⟨s0, s1⟩ := hSw; have d1 := D1.out; have d2 := D2.out; have d3 := D3.out; have d4 := D4.out; go_simp; try with_reducible rfl)
        try simp only [Act.put, List.setIfInBounds_toArray, List.set_cons_zero, List.set_cons_succ]
        refine hTake (i := 3) (v := ?v3e) (some 18) rfl rfl (by kernel_rfl) (by kernel_rfl) (by kernel_rfl) (fun _ _ _ h => h) (by rfl) (by assumption) ?hy3e ?hn3e
        case hy3e => (intro w hSw; (try dsimp only at hSw); obtain ⟨s0, s1⟩ := hSw; have d1 := D1.out; have d2 := D2.out; have d3 := D3.out; have d4 := D4.out; go_simp; try with_reducible rfl)
        try simp only [Act.put, List.setIfInBounds_toArray, List.set_cons_zero, List.set_cons_succ]
        refine hTake (i := 4) (v := ?v4e) (some 19) rfl rfl (by kernel_rfl) (by kernel_rfl) (by kernel_rfl) (fun _ _ _ h => h) (by rfl) (by assumption) ?hy4e ?hn4e
        case hy4e => (intro w hSw; (try dsimp only at hSw); obtain ⟨s0, s1⟩ := hSw; have d1 := D1.out; have d2 := D2.out; have d3 := D3.out; have d4 := D4.out; go_simp; try with_reducible rfl)
        try simp only [Act.put, List.setIfInBounds_toArray, List.set_cons_zero, List.set_cons_succ]
        refine hTake (i := 5) (v := ?v5e) (some 20) rfl rfl (by kernel_rfl) (by kernel_rfl) (by kernel_rfl) (fun _ _ _ h => h) (by rfl) (by assumption) ?hy5e ?hn5e
        case hy5e => (intro w hSw; (try dsimp only at hSw); obtain ⟨s0, s1⟩ := hSw; have d1 := D1.out; have d2 := D2.out; have d3 := D3.out; have d4 := D4.out; go_simp; try with_reducible rfl)
        try simp only [Act.put, List.setIfInBounds_toArray, List.set_cons_zero, List.set_cons_succ]
        refine hTake (i := 6) (v := ?v6e) (some 21) rfl rfl (by kernel_rfl) (by kernel_rfl) (by kernel_rfl) (fun _ _ _ h => h) (by rfl) (by assumption) ?hy6e ?hn6e
        case hy6e => (intro w hSw; (try dsimp only at hSw); obtain ⟨s0, s1⟩ := hSw; have d1 := D1.out; have d2 := D2.out; have d3 := D3.out; have d4 := D4.out; go_simp; try with_reducible rfl)
        try simp only [Act.put, List.setIfInBounds_toArray, List.set_cons_zero, List.set_cons_succ]
        refine hTake (i := 7) (v := ?v7e) (some 22) rfl rfl (by kernel_rfl) (by kernel_rfl) (by kernel_rfl) (fun _ _ _ h => h) (by rfl) (by assumption) ?hy7e ?hn7e
        case hy7e => (intro w hSw; (try dsimp only at hSw); obtain ⟨s0, s1⟩ := hSw; have d1 := D1.out; have d2 := D2.out; have d3 := D3.out; have d4 := D4.out; go_simp; try with_reducible rfl)
        try simp only [Act.put, List.setIfInBounds_toArray, List.set_cons_zero, List.set_cons_succ]
        refine hTake (i := 8) (v := ?v8e) (some 23) rfl rfl (by kernel_rfl) (by kernel_rfl) (by kernel_rfl) (fun _ _ _ h => h) (by rfl) (by assumption) ?hy8e ?hn8e
        case hy8e => (intro w hSw; (try dsimp only at hSw); obtain ⟨s0, s1⟩ := hSw; have d1 := D1.out; have d2 := D2.out; have d3 := D3.out; have d4 := D4.out; go_simp; try with_reducible rfl)
        try simp only [Act.put, List.setIfInBounds_toArray, List.set_cons_zero, List.set_cons_succ]
        refine hTake (i := 9) (v := ?v9e) (some 24) rfl rfl (by kernel_rfl) (by kernel_rfl) (by kernel_rfl) (fun _ _ _ h => h) (by rfl) (by assumption) ?hy9e ?hn9e
        case hy9e => (intro w hSw; (try dsimp only at hSw); obtain ⟨s0, s1⟩ := hSw; have d1 := D1.out; have d2 := D2.out; have d3 := D3.out; have d4 := D4.out; go_simp; try with_reducible rfl)
        try simp only [Act.put, List.setIfInBounds_toArray, List.set_cons_zero, List.set_cons_succ]
        refine hTake (i := 10) (v := ?v10e) (some 25) rfl rfl (by kernel_rfl) (by kernel_rfl) (by kernel_rfl) (fun _ _ _ h => h) (by rfl) (by assumption) ?hy10e ?hn10e
        case hy10e => (intro w hSw; (try dsimp only at hSw); obtain ⟨s0, s1⟩ := hSw; have d1 := D1.out; have d2 := D2.out; have d3 := D3.out; have d4 := D4.out; go_simp; try with_reducible rfl)
        try simp only [Act.put, List.setIfInBounds_toArray, List.set_cons_zero, List.set_cons_succ]
        refine hTake (i := 11) (v := ?v11e) (some 26) rfl rfl (by kernel_rfl) (by kernel_rfl) (by kernel_rfl) (fun _ _ _ h => h) (by rfl) (by assumption) ?hy11e ?hn11e
        case hy11e => (intro w hSw; (try dsimp only at hSw); obtain ⟨s0, s1⟩ := hSw; have d1 := D1.out; have d2 := D2.out; have d3 := D3.out; have d4 := D4.out; go_simp; try with_reducible rfl)
        try simp only [Act.put, List.setIfInBounds_toArray, List.set_cons_zero, List.set_cons_succ]
        refine hTake (i := 12) (v := ?v12e) (some 27) rfl rfl (by kernel_rfl) (by kernel_rfl) (by kernel_rfl) (fun _ _ _ h => h) (by rfl) (by assumption) ?hy12e ?hn12e
        case hy12e => (intro w hSw; (try dsimp only at hSw); obtain ⟨s0, s1⟩ := hSw; have d1 := D1.out; have d2 := D2.out; have d3 := D3.out; have d4 := D4.out; go_simp; try with_reducible rfl)
        try simp only [Act.put, List.setIfInBounds_toArray, List.set_cons_zero, List.set_cons_succ]
        refine hTake (i := 13) (v := ?v13e) (some 28) rfl rfl (by kernel_rfl) (by kernel_rfl) (by kernel_rfl) (fun _ _ _ h => h) (by rfl) (by assumption) ?hy13e ?hn13e
        case hy13e => (intro w hSw; (try dsimp only at hSw); obtain ⟨s0, s1⟩ := hSw; have d1 := D1.out; have d2 := D2.out; have d3 := D3.out; have d4 := D4.out; go_simp; try with_reducible rfl)
        try simp only [Act.put, List.setIfInBounds_toArray, List.set_cons_zero, List.set_cons_succ]
        refine hTake (i := 14) (v := ?v14e) (some 29) rfl rfl (by kernel_rfl) (by kernel_rfl) (by kernel_rfl) (fun _ _ _ h => h) (by rfl) (by assumption) ?hy14e ?hn14e
        case hy14e => (intro w hSw; (try dsimp only at hSw); obtain ⟨s0, s1⟩ := hSw; have d1 := D1.out; have d2 := D2.out; have d3 := D3.out; have d4 := D4.out; go_simp; try with_reducible rfl)
        try simp only [Act.put, List.setIfInBounds_toArray, List.set_cons_zero, List.set_cons_succ]
        refine hTake (i := 15) (v := ?v15e) (some 30) rfl rfl (by kernel_rfl) (by kernel_rfl) (by kernel_rfl) (fun _ _ _ h => h) (by rfl) (by assumption) ?hy15e ?hn15e
        case hy15e => (intro w hSw; (try dsimp only at hSw); obtain ⟨s0, s1⟩ := hSw; have d1 := D1.out; have d2 := D2.out; have d3 := D3.out; have d4 := D4.out; go_simp; try with_reducible rfl)
        try simp only [Act.put, List.setIfInBounds_toArray, List.set_cons_zero, List.set_cons_succ]
        refine hTake (i := 16) (v := ?v16e) (some 31) rfl rfl (by kernel_rfl) (by kernel_rfl) (by kernel_rfl) (fun _ _ _ h => h) (by rfl) (by assumption) ?hy16e ?hn16e
        case hy16e => (intro w hSw; (try dsimp only at hSw); obtain ⟨s0, s1⟩ := hSw; have d1 := D1.out; have d2 := D2.out; have d3 := D3.out; have d4 := D4.out; go_simp; try with_reducible rfl)
        try simp only [Act.put, List.setIfInBounds_toArray, List.set_cons_zero, List.set_cons_succ]
        refine hTake (i := 17) (v := ?v17e) (some 32) rfl rfl (by kernel_rfl) (by kernel_rfl) (by kernel_rfl) (fun _ _ _ h => h) (by rfl) (by assumption) ?hy17e ?hn17e
        case hy17e => (intro w hSw; (try dsimp only at hSw); obtain ⟨s0, s1⟩ := hSw; have d1 := D1.out; have d2 := D2.out; have d3 := D3.out; have d4 := D4.out; go_simp; try with_reducible rfl)
        try simp only [Act.put, List.setIfInBounds_toArray, List.set_cons_zero, List.set_cons_succ]
        refine hTake (i := 18) (v := ?v18e) (some 33) rfl rfl (by kernel_rfl) (by kernel_rfl) (by kernel_rfl) (fun _ _ _ h => h) (by rfl) (by assumption) ?hy18e ?hn18e
        case hy18e => (intro w hSw; (try dsimp only at hSw); obtain ⟨s0, s1⟩ := hSw; have d1 := D1.out; have d2 := D2.out; have d3 := D3.out; have d4 := D4.out; go_simp; try with_reducible rfl)
        try simp only [Act.put, List.setIfInBounds_toArray, List.set_cons_zero, List.set_cons_succ]
        refine hTake (i := 19) (v := ?v19e) (some 34) rfl rfl (by kernel_rfl) (by kernel_rfl) (by kernel_rfl) (fun _ _ _ h => h) (by rfl) (by assumption) ?hy19e ?hn19e
        case hy19e => (intro w hSw; (try dsimp only at hSw); obtain ⟨s0, s1⟩ := hSw; have d1 := D1.out; have d2 := D2.out; have d3 := D3.out; have d4 := D4.out; go_simp; try with_reducible rfl)
        try simp only [Act.put, List.setIfInBounds_toArray, List.set_cons_zero, List.set_cons_succ]
        refine hTake (i := 20) (v := ?v20e) (some 35) rfl rfl (by kernel_rfl) (by kernel_rfl) (by kernel_rfl) (fun _ _ _ h => h) (by rfl) (by assumption) ?hy20e ?hn20e
        case hy20e => (intro w hSw; (try dsimp only at hSw); obtain ⟨s0, s1⟩ := hSw; have d1 := D1.out; have d2 := D2.out; have d3 := D3.out; have d4 := D4.out; go_simp; try with_reducible rfl)
        try simp only [Act.put, List.setIfInBounds_toArray, List.set_cons_zero, List.set_cons_succ]
        refine hTake (i := 21) (v := ?v21e) (some 36) rfl rfl (by kernel_rfl) (by kernel_rfl) (by kernel_rfl) (fun _ _ _ h => h) (by rfl) (by assumption) ?hy21e ?hn21e
        case hy21e => (intro w hSw; (try dsimp only at hSw); obtain ⟨s0, s1⟩ := hSw; have d1 := D1.out; have d2 := D2.out; have d3 := D3.out; have d4 := D4.out; go_simp; try with_reducible rfl)
        try simp only [Act.put, List.setIfInBounds_toArray, List.set_cons_zero, List.set_cons_succ]
        refine hSkip (i := 22) (some 37) rfl rfl (by kernel_rfl) (by kernel_rfl) (by kernel_rfl) (fun _ _ _ h => h) (by rfl) (by assumption) ?_
        try simp only [Act.put, List.setIfInBounds_toArray, List.set_cons_zero, List.set_cons_succ]
        refine hSkip (i := 23) (some 38) rfl rfl (by kernel_rfl) (by kernel_rfl) (by kernel_rfl) (fun _ _ _ h => h) (by rfl) (by assumption) ?_
        try simp only [Act.put, List.setIfInBounds_toArray, List.set_cons_zero, List.set_cons_succ]
        refine hSkip (i := 24) (some 39) rfl rfl (by kernel_rfl) (by kernel_rfl) (by kernel_rfl) (fun _ _ _ h => h) (by rfl) (by assumption) ?_
        try simp only [Act.put, List.setIfInBounds_toArray, List.set_cons_zero, List.set_cons_succ]
        refine hSkip (i := 25) (some 40) rfl rfl (by kernel_rfl) (by kernel_rfl) (by kernel_rfl) (fun _ _ _ h => h) (by rfl) (by assumption) ?_
        try simp only [Act.put, List.setIfInBounds_toArray, List.set_cons_zero, List.set_cons_succ]
        refine hSkip (i := 26) (some 41) rfl rfl (by kernel_rfl) (by kernel_rfl) (by kernel_rfl) (fun _ _ _ h => h) (by rfl) (by assumption) ?_
        try simp only [Act.put, List.setIfInBounds_toArray, List.set_cons_zero, List.set_cons_succ]
        refine hSkip (i := 27) (some 42) rfl rfl (by kernel_rfl) (by kernel_rfl) (by kernel_rfl) (fun _ _ _ h => h) (by rfl) (by assumption) ?_
        try simp only [Act.put, List.setIfInBounds_toArray, List.set_cons_zero, List.set_cons_succ]
        refine hSkip (i := 28) (some 43) rfl rfl (by kernel_rfl) (by kernel_rfl) (by kernel_rfl) (fun _ _ _ h => h) (by rfl) (by assumption) ?_
        try simp only [Act.put, List.setIfInBounds_toArray, List.set_cons_zero, List.set_cons_succ]
        refine hSkip (i := 29) (some 44) rfl rfl (by kernel_rfl) (by kernel_rfl) (by kernel_rfl) (fun _ _ _ h => h) (by rfl) (by assumption) ?_
        try simp only [Act.put, List.setIfInBounds_toArray, List.set_cons_zero, List.set_cons_succ]
        refine hSkip (i := 30) (some 45) rfl rfl (by kernel_rfl) (by kernel_rfl) (by kernel_rfl) (fun _ _ _ h => h) (by rfl) (by assumption) ?_
        try simp only [Act.put, List.setIfInBounds_toArray, List.set_cons_zero, List.set_cons_succ]
        refine hTake (i := 31) (v := ?v31e) (some 46) rfl rfl (by kernel_rfl) (by kernel_rfl) (by kernel_rfl) (fun _ _ _ h => h) (by rfl) (by assumption) ?hy31e ?hn31e
        case hy31e => (intro w hSw; (try dsimp only at hSw); obtain ⟨s0, s1⟩ := hSw; have d1 := D1.out; have d2 := D2.out; have d3 := D3.out; have d4 := D4.out; go_simp; try with_reducible rfl)
        try simp only [Act.put, List.setIfInBounds_toArray, List.set_cons_zero, List.set_cons_succ]
        refine hTake (i := 32) (v := ?v32e) (some 47) rfl rfl (by kernel_rfl) (by kernel_rfl) (by kernel_rfl) (fun _ _ _ h => h) (by rfl) (by assumption) ?hy32e ?hn32e
        case hy32e => (intro w hSw; (try dsimp only at hSw); obtain ⟨s0, s1⟩ := hSw; have d1 := D1.out; have d2 := D2.out; have d3 := D3.out; have d4 := D4.out; go_simp; try with_reducible rfl)
        try simp only [Act.put, List.setIfInBounds_toArray, List.set_cons_zero, List.set_cons_succ]
        refine wpAnyH_done (by kernel_rfl) ?_ _
        go_wp2
        go_roundw
        case rel => exact ⟨0 + 1, x1, by omega, by simp, HF, hide (by intro h; omega), hide (fun _ => by rw [Nat.add_sub_cancel, HX.out]), hide HW1.out.drew⟩
        case measure => simp [intOf] <;> omega
      · obtain ⟨p, rfl⟩ : ∃ p, k = p + 1 := ⟨k - 1, by omega⟩
        clear hk0
        have HLA := hide (HP.out (by omega))
        simp only [Nat.add_sub_cancel] at HLA
        obtain ⟨bs', off', eq', hbs', y0⟩ := (HV.out.below' HW.out).2.2.2.2.1 p (by omega)
        cases eq'
        generalize l.getD p Sh0 = y at *
        obtain ⟨y1, y2⟩ := y
        dsimp only at HLA
        obtain rfl : y1 = la := HLA.out.symm
        clear HLA
        have HSY : Hid ((wr.alloc (.cells #[.int .i64 x1, .int .u8 x2] 42)).drew.cell? ⟨wr.heap.size, 0, none⟩ = some (.int .i64 x1) ∧ (wr.alloc (.cells #[.int .i64 x1, .int .u8 x2] 42)).drew.cell? ⟨wr.heap.size, 1, none⟩ = some (.int .u8 x2) ∧ (wr.alloc (.cells #[.int .i64 x1, .int .u8 x2] 42)).drew.cell? ⟨bs, off + p * 2, none⟩ = some (.int .i64 y1)) := hide ⟨HS.out.1, HS.out.2, (World.cell?_alloc_past _ _ _ hbs).trans y0.1⟩
        clear y0 HZ HP
        have hwp : IntKind.i64.wrap (p : Int) = (p : Int) := wrap64 (by omega) (by omega)
        have hpl : (p : Int) < (len : Int) := by omega
        have hp0 : (0 : Int) < (p : Int) + 1 := by omega
        have D5 : Hid (decide ((0 : Int) < (p : Int) + 1) = true) := hide (decide_eq_true hp0)
        have D7 := hide hwp
        have D8 : Hid ((p : Int) < (len : Int)) := hide (by omega)
        by_cases n5 : x1 ≤ y1
        · have D6 : Hid (decide (x1 ≤ y1) = true) := hide (decide_eq_true n5)
          have HF : Hid (goodL 0 l = false) := hide (by rw [HG.out]; rw [decide_eq_false (show ¬ y1 < x1 by omega)]; simp)
          try clear n1
          try clear n2
          try clear n3
          try clear n4
          try clear n5
          go_wp2_with fail
          refine wp_region_held_drew (S := (fun W : World => W.cell? ⟨wr.heap.size, 0, none⟩ = some (.int .i64 x1) ∧ W.cell? ⟨wr.heap.size, 1, none⟩ = some (.int .u8 x2) ∧ W.cell? ⟨bs, off + p * 2, none⟩ = some (.int .i64 y1))) (by kernel_rfl) ?hSf (fun hHeld => ?_)
          case hSf => exact HSY.out
          refine hTake (i := 0) (v := ?v0f) (some 15) rfl rfl (by kernel_rfl) (by kernel_rfl) (by kernel_rfl) (fun _ _ _ h => h) (by rfl) (by assumption) ?hy0f ?hn0f
          case hy0f => (intro w hSw; (try dsimp only at hSw); obtain ⟨s0, s1, s2⟩ := hSw; have d1 := D1.out; have d2 := D2.out; have d3 := D3.out; have d4 := D4.out; have d5 := D5.out; have d6 := D6.out; have d7 := D7.out; have d8 := D8.out; go_simp; try with_reducible rfl)
          try simp only [Act.put, List.setIfInBounds_toArray, List.set_cons_zero, List.set_cons_succ]
          refine hTake (i := 1) (v := ?v1f) (some 16) rfl rfl (by kernel_rfl) (by kernel_rfl) (by kernel_rfl) (fun _ _ _ h => h) (by rfl) (by assumption) ?hy1f ?hn1f
          case hy1f => (intro w hSw; (try dsimp only at hSw); obtain ⟨s0, s1, s2⟩ := hSw; have d1 := D1.out; have d2 := D2.out; have d3 := D3.out; have d4 := D4.out; have d5 := D5.out; have d6 := D6.out; have d7 := D7.out; have d8 := D8.out; go_simp; try with_reducible rfl)
          try simp only [Act.put, List.setIfInBounds_toArray, List.set_cons_zero, List.set_cons_succ]
          refine hTake (i := 2) (v := ?v2f) (some 17) rfl rfl (by kernel_rfl) (by kernel_rfl) (by kernel_rfl) (fun _ _ _ h => h) (by rfl) (by assumption) ?hy2f ?hn2f
          case hy2f => (intro w hSw; (try dsimp only at hSw); obtain ⟨s0, s1, s2⟩ := hSw; have d1 := D1.out; have d2 := D2.out; have d3 := D3.out; have d4 := D4.out; have d5 := D5.out; have d6 := D6.out; have d7 := D7.out; have d8 := D8.out; go_simp; try with_reducible rfl)
          try simp only [Act.put, List.setIfInBounds_toArray, List.set_cons_zero, List.set_cons_succ]
          refine hTake (i := 3) (v := ?v3f) (some 18) rfl rfl (by kernel_rfl) (by kernel_rfl) (by kernel_rfl) (fun _ _ _ h => h) (by rfl) (by assumption) ?hy3f ?hn3f
          case hy3f => (intro w hSw; (try dsimp only at hSw); obtain ⟨s0, s1, s2⟩ := hSw; have d1 := D1.out; have d2 := D2.out; have d3 := D3.out; have d4 := D4.out; have d5 := D5.out; have d6 := D6.out; have d7 := D7.out; have d8 := D8.out; go_simp; try with_reducible rfl)
          try simp only [Act.put, List.setIfInBounds_toArray, List.set_cons_zero, List.set_cons_succ]
          refine hTake (i := 4) (v := ?v4f) (some 19) rfl rfl (by kernel_rfl) (by kernel_rfl) (by kernel_rfl) (fun _ _ _ h => h) (by rfl) (by assumption) ?hy4f ?hn4f
          case hy4f => (intro w hSw; (try dsimp only at hSw); obtain ⟨s0, s1, s2⟩ := hSw; have d1 := D1.out; have d2 := D2.out; have d3 := D3.out; have d4 := D4.out; have d5 := D5.out; have d6 := D6.out; have d7 := D7.out; have d8 := D8.out; go_simp; try with_reducible rfl)
          try simp only [Act.put, List.setIfInBounds_toArray, List.set_cons_zero, List.set_cons_succ]
          refine hTake (i := 5) (v := ?v5f) (some 20) rfl rfl (by kernel_rfl) (by kernel_rfl) (by kernel_rfl) (fun _ _ _ h => h) (by rfl) (by assumption) ?hy5f ?hn5f
          case hy5f => (intro w hSw; (try dsimp only at hSw); obtain ⟨s0, s1, s2⟩ := hSw; have d1 := D1.out; have d2 := D2.out; have d3 := D3.out; have d4 := D4.out; have d5 := D5.out; have d6 := D6.out; have d7 := D7.out; have d8 := D8.out; go_simp; try with_reducible rfl)
          try simp only [Act.put, List.setIfInBounds_toArray, List.set_cons_zero, List.set_cons_succ]
          refine hTake (i := 6) (v := ?v6f) (some 21) rfl rfl (by kernel_rfl) (by kernel_rfl) (by kernel_rfl) (fun _ _ _ h => h) (by rfl) (by assumption) ?hy6f ?hn6f
          case hy6f => (intro w hSw; (try dsimp only at hSw); obtain ⟨s0, s1, s2⟩ := hSw; have d1 := D1.out; have d2 := D2.out; have d3 := D3.out; have d4 := D4.out; have d5 := D5.out; have d6 := D6.out; have d7 := D7.out; have d8 := D8.out; go_simp; try with_reducible rfl)
          try simp only [Act.put, List.setIfInBounds_toArray, List.set_cons_zero, List.set_cons_succ]
          refine hTake (i := 7) (v := ?v7f) (some 22) rfl rfl (by kernel_rfl) (by kernel_rfl) (by kernel_rfl) (fun _ _ _ h => h) (by rfl) (by assumption) ?hy7f ?hn7f
          case hy7f => (intro w hSw; (try dsimp only at hSw); obtain ⟨s0, s1, s2⟩ := hSw; have d1 := D1.out; have d2 := D2.out; have d3 := D3.out; have d4 := D4.out; have d5 := D5.out; have d6 := D6.out; have d7 := D7.out; have d8 := D8.out; go_simp; try with_reducible rfl)
          try simp only [Act.put, List.setIfInBounds_toArray, List.set_cons_zero, List.set_cons_succ]
          refine hTake (i := 8) (v := ?v8f) (some 23) rfl rfl (by kernel_rfl) (by kernel_rfl) (by kernel_rfl) (fun _ _ _ h => h) (by rfl) (by assumption) ?hy8f ?hn8f
          case hy8f => (intro w hSw; (try dsimp only at hSw); obtain ⟨s0, s1, s2⟩ := hSw; have d1 := D1.out; have d2 := D2.out; have d3 := D3.out; have d4 := D4.out; have d5 := D5.out; have d6 := D6.out; have d7 := D7.out; have d8 := D8.out; go_simp; try with_reducible rfl)
          try simp only [Act.put, List.setIfInBounds_toArray, List.set_cons_zero, List.set_cons_succ]
          refine hTake (i := 9) (v := ?v9f) (some 24) rfl rfl (by kernel_rfl) (by kernel_rfl) (by kernel_rfl) (fun _ _ _ h => h) (by rfl) (by assumption) ?hy9f ?hn9f
          case hy9f => (intro w hSw; (try dsimp only at hSw); obtain ⟨s0, s1, s2⟩ := hSw; have d1 := D1.out; have d2 := D2.out; have d3 := D3.out; have d4 := D4.out; have d5 := D5.out; have d6 := D6.out; have d7 := D7.out; have d8 := D8.out; go_simp; try with_reducible rfl)
          try simp only [Act.put, List.setIfInBounds_toArray, List.set_cons_zero, List.set_cons_succ]
          refine hTake (i := 10) (v := ?v10f) (some 25) rfl rfl (by kernel_rfl) (by kernel_rfl) (by kernel_rfl) (fun _ _ _ h => h) (by rfl) (by assumption) ?hy10f ?hn10f
          case hy10f => (intro w hSw; (try dsimp only at hSw); obtain ⟨s0, s1, s2⟩ := hSw; have d1 := D1.out; have d2 := D2.out; have d3 := D3.out; have d4 := D4.out; have d5 := D5.out; have d6 := D6.out; have d7 := D7.out; have d8 := D8.out; go_simp; try with_reducible rfl)
          try simp only [Act.put, List.setIfInBounds_toArray, List.set_cons_zero, List.set_cons_succ]
          refine hTake (i := 11) (v := ?v11f) (some 26) rfl rfl (by kernel_rfl) (by kernel_rfl) (by kernel_rfl) (fun _ _ _ h => h) (by rfl) (by assumption) ?hy11f ?hn11f
          case hy11f => (intro w hSw; (try dsimp only at hSw); obtain ⟨s0, s1, s2⟩ := hSw; have d1 := D1.out; have d2 := D2.out; have d3 := D3.out; have d4 := D4.out; have d5 := D5.out; have d6 := D6.out; have d7 := D7.out; have d8 := D8.out; go_simp; try with_reducible rfl)
          try simp only [Act.put, List.setIfInBounds_toArray, List.set_cons_zero, List.set_cons_succ]
          refine hTake (i := 12) (v := ?v12f) (some 27) rfl rfl (by kernel_rfl) (by kernel_rfl) (by kernel_rfl) (fun _ _ _ h => h) (by rfl) (by assumption) ?hy12f ?hn12f
          case hy12f => (intro w hSw; (try dsimp only at hSw); obtain ⟨s0, s1, s2⟩ := hSw; have d1 := D1.out; have d2 := D2.out; have d3 := D3.out; have d4 := D4.out; have d5 := D5.out; have d6 := D6.out; have d7 := D7.out; have d8 := D8.out; go_simp; try with_reducible rfl)
          try simp only [Act.put, List.setIfInBounds_toArray, List.set_cons_zero, List.set_cons_succ]
          refine hTake (i := 13) (v := ?v13f) (some 28) rfl rfl (by kernel_rfl) (by kernel_rfl) (by kernel_rfl) (fun _ _ _ h => h) (by rfl) (by assumption) ?hy13f ?hn13f
          case hy13f => (intro w hSw; (try dsimp only at hSw); obtain ⟨s0, s1, s2⟩ := hSw; have d1 := D1.out; have d2 := D2.out; have d3 := D3.out; have d4 := D4.out; have d5 := D5.out; have d6 := D6.out; have d7 := D7.out; have d8 := D8.out; go_simp; try with_reducible rfl)
          try simp only [Act.put, List.setIfInBounds_toArray, List.set_cons_zero, List.set_cons_succ]
          refine hTake (i := 14) (v := ?v14f) (some 29) rfl rfl (by kernel_rfl) (by kernel_rfl) (by kernel_rfl) (fun _ _ _ h => h) (by rfl) (by assumption) ?hy14f ?hn14f
          case hy14f => (intro w hSw; (try dsimp only at hSw); obtain ⟨s0, s1, s2⟩ := hSw; have d1 := D1.out; have d2 := D2.out; have d3 := D3.out; have d4 := D4.out; have d5 := D5.out; have d6 := D6.out; have d7 := D7.out; have d8 := D8.out; go_simp; try with_reducible rfl)
          try simp only [Act.put, List.setIfInBounds_toArray, List.set_cons_zero, List.set_cons_succ]
          refine hTake (i := 15) (v := ?v15f) (some 30) rfl rfl (by kernel_rfl) (by kernel_rfl) (by kernel_rfl) (fun _ _ _ h => h) (by rfl) (by assumption) ?hy15f ?hn15f
          case hy15f => (intro w hSw; (try dsimp only at hSw); obtain ⟨s0, s1, s2⟩ := hSw; have d1 := D1.out; have d2 := D2.out; have d3 := D3.out; have d4 := D4.out; have d5 := D5.out; have d6 := D6.out; have d7 := D7.out; have d8 := D8.out; go_simp; try with_reducible rfl)
          try simp only [Act.put, List.setIfInBounds_toArray, List.set_cons_zero, List.set_cons_succ]
          refine hTake (i := 16) (v := ?v16f) (some 31) rfl rfl (by kernel_rfl) (by kernel_rfl) (by kernel_rfl) (fun _ _ _ h => h) (by rfl) (by assumption) ?hy16f ?hn16f
          case hy16f => (intro w hSw; (try dsimp only at hSw); obtain ⟨s0, s1, s2⟩ := hSw; have d1 := D1.out; have d2 := D2.out; have d3 := D3.out; have d4 := D4.out; have d5 := D5.out; have d6 := D6.out; have d7 := D7.out; have d8 := D8.out; go_simp; try with_reducible rfl)
          try simp only [Act.put, List.setIfInBounds_toArray, List.set_cons_zero, List.set_cons_succ]
          refine hTake (i := 17) (v := ?v17f) (some 32) rfl rfl (by kernel_rfl) (by kernel_rfl) (by kernel_rfl) (fun _ _ _ h => h) (by rfl) (by assumption) ?hy17f ?hn17f
          case hy17f => (intro w hSw; (try dsimp only at hSw); obtain ⟨s0, s1, s2⟩ := hSw; have d1 := D1.out; have d2 := D2.out; have d3 := D3.out; have d4 := D4.out; have d5 := D5.out; have d6 := D6.out; have d7 := D7.out; have d8 := D8.out; go_simp; try with_reducible rfl)
          try simp only [Act.put, List.setIfInBounds_toArray, List.set_cons_zero, List.set_cons_succ]
          refine hTake (i := 18) (v := ?v18f) (some 33) rfl rfl (by kernel_rfl) (by kernel_rfl) (by kernel_rfl) (fun _ _ _ h => h) (by rfl) (by assumption) ?hy18f ?hn18f
          case hy18f => (intro w hSw; (try dsimp only at hSw); obtain ⟨s0, s1, s2⟩ := hSw; have d1 := D1.out; have d2 := D2.out; have d3 := D3.out; have d4 := D4.out; have d5 := D5.out; have d6 := D6.out; have d7 := D7.out; have d8 := D8.out; go_simp; try with_reducible rfl)
          try simp only [Act.put, List.setIfInBounds_toArray, List.set_cons_zero, List.set_cons_succ]
          refine hTake (i := 19) (v := ?v19f) (some 34) rfl rfl (by kernel_rfl) (by kernel_rfl) (by kernel_rfl) (fun _ _ _ h => h) (by rfl) (by assumption) ?hy19f ?hn19f
          case hy19f => (intro w hSw; (try dsimp only at hSw); obtain ⟨s0, s1, s2⟩ := hSw; have d1 := D1.out; have d2 := D2.out; have d3 := D3.out; have d4 := D4.out; have d5 := D5.out; have d6 := D6.out; have d7 := D7.out; have d8 := D8.out; go_simp; try with_reducible rfl)
          try simp only [Act.put, List.setIfInBounds_toArray, List.set_cons_zero, List.set_cons_succ]
          refine hTake (i := 20) (v := ?v20f) (some 35) rfl rfl (by kernel_rfl) (by kernel_rfl) (by kernel_rfl) (fun _ _ _ h => h) (by rfl) (by assumption) ?hy20f ?hn20f
          case hy20f => (intro w hSw; (try dsimp only at hSw); obtain ⟨s0, s1, s2⟩ := hSw; have d1 := D1.out; have d2 := D2.out; have d3 := D3.out; have d4 := D4.out; have d5 := D5.out; have d6 := D6.out; have d7 := D7.out; have d8 := D8.out; go_simp; try with_reducible rfl)
          try simp only [Act.put, List.setIfInBounds_toArray, List.set_cons_zero, List.set_cons_succ]
          refine hTake (i := 21) (v := ?v21f) (some 36) rfl rfl (by kernel_rfl) (by kernel_rfl) (by kernel_rfl) (fun _ _ _ h => h) (by rfl) (by assumption) ?hy21f ?hn21f
          case hy21f => (intro w hSw; (try dsimp only at hSw); obtain ⟨s0, s1, s2⟩ := hSw; have d1 := D1.out; have d2 := D2.out; have d3 := D3.out; have d4 := D4.out; have d5 := D5.out; have d6 := D6.out; have d7 := D7.out; have d8 := D8.out; go_simp; try with_reducible rfl)
          try simp only [Act.put, List.setIfInBounds_toArray, List.set_cons_zero, List.set_cons_succ]
          refine hTake (i := 22) (v := ?v22f) (some 37) rfl rfl (by kernel_rfl) (by kernel_rfl) (by kernel_rfl) (fun _ _ _ h => h) (by rfl) (by assumption) ?hy22f ?hn22f
          case hy22f => (intro w hSw; (try dsimp only at hSw); obtain ⟨s0, s1, s2⟩ := hSw; have d1 := D1.out; have d2 := D2.out; have d3 := D3.out; have d4 := D4.out; have d5 := D5.out; have d6 := D6.out; have d7 := D7.out; have d8 := D8.out; go_simp; try with_reducible rfl)
          try simp only [Act.put, List.setIfInBounds_toArray, List.set_cons_zero, List.set_cons_succ]
          refine hTake (i := 23) (v := ?v23f) (some 38) rfl rfl (by kernel_rfl) (by kernel_rfl) (by kernel_rfl) (fun _ _ _ h => h) (by rfl) (by assumption) ?hy23f ?hn23f
          case hy23f => (intro w hSw; (try dsimp only at hSw); obtain ⟨s0, s1, s2⟩ := hSw; have d1 := D1.out; have d2 := D2.out; have d3 := D3.out; have d4 := D4.out; have d5 := D5.out; have d6 := D6.out; have d7 := D7.out; have d8 := D8.out; go_simp; try with_reducible rfl)
          try simp only [Act.put, List.setIfInBounds_toArray, List.set_cons_zero, List.set_cons_succ]
          refine hTake (i := 24) (v := ?v24f) (some 39) rfl rfl (by kernel_rfl) (by kernel_rfl) (by kernel_rfl) (fun _ _ _ h => h) (by rfl) (by assumption) ?hy24f ?hn24f
          case hy24f => (intro w hSw; (try dsimp only at hSw); obtain ⟨s0, s1, s2⟩ := hSw; have d1 := D1.out; have d2 := D2.out; have d3 := D3.out; have d4 := D4.out; have d5 := D5.out; have d6 := D6.out; have d7 := D7.out; have d8 := D8.out; go_simp; try with_reducible rfl)
          try simp only [Act.put, List.setIfInBounds_toArray, List.set_cons_zero, List.set_cons_succ]
          refine hTake (i := 25) (v := ?v25f) (some 40) rfl rfl (by kernel_rfl) (by kernel_rfl) (by kernel_rfl) (fun _ _ _ h => h) (by rfl) (by assumption) ?hy25f ?hn25f
          case hy25f => (intro w hSw; (try dsimp only at hSw); obtain ⟨s0, s1, s2⟩ := hSw; have d1 := D1.out; have d2 := D2.out; have d3 := D3.out; have d4 := D4.out; have d5 := D5.out; have d6 := D6.out; have d7 := D7.out; have d8 := D8.out; go_simp; try with_reducible rfl)
          try simp only [Act.put, List.setIfInBounds_toArray, List.set_cons_zero, List.set_cons_succ]
          refine hTake (i := 26) (v := ?v26f) (some 41) rfl rfl (by kernel_rfl) (by kernel_rfl) (by kernel_rfl) (fun _ _ _ h => h) (by rfl) (by assumption) ?hy26f ?hn26f
          case hy26f => (intro w hSw; (try dsimp only at hSw); obtain ⟨s0, s1, s2⟩ := hSw; have d1 := D1.out; have d2 := D2.out; have d3 := D3.out; have d4 := D4.out; have d5 := D5.out; have d6 := D6.out; have d7 := D7.out; have d8 := D8.out; go_simp; try with_reducible rfl)
          try simp only [Act.put, List.setIfInBounds_toArray, List.set_cons_zero, List.set_cons_succ]
          refine hTake (i := 27) (v := ?v27f) (some 42) rfl rfl (by kernel_rfl) (by kernel_rfl) (by kernel_rfl) (fun _ _ _ h => h) (by rfl) (by assumption) ?hy27f ?hn27f
          case hy27f => (intro w hSw; (try dsimp only at hSw); obtain ⟨s0, s1, s2⟩ := hSw; have d1 := D1.out; have d2 := D2.out; have d3 := D3.out; have d4 := D4.out; have d5 := D5.out; have d6 := D6.out; have d7 := D7.out; have d8 := D8.out; go_simp; try with_reducible rfl)
          try simp only [Act.put, List.setIfInBounds_toArray, List.set_cons_zero, List.set_cons_succ]
          refine hTake (i := 28) (v := ?v28f) (some 43) rfl rfl (by kernel_rfl) (by kernel_rfl) (by kernel_rfl) (fun _ _ _ h => h) (by rfl) (by assumption) ?hy28f ?hn28f
          case hy28f => (intro w hSw; (try dsimp only at hSw); obtain ⟨s0, s1, s2⟩ := hSw; have d1 := D1.out; have d2 := D2.out; have d3 := D3.out; have d4 := D4.out; have d5 := D5.out; have d6 := D6.out; have d7 := D7.out; have d8 := D8.out; go_simp; try with_reducible rfl)
          try simp only [Act.put, List.setIfInBounds_toArray, List.set_cons_zero, List.set_cons_succ]
          refine hTake (i := 29) (v := ?v29f) (some 44) rfl rfl (by kernel_rfl) (by kernel_rfl) (by kernel_rfl) (fun _ _ _ h => h) (by rfl) (by assumption) ?hy29f ?hn29f
          case hy29f => (intro w hSw; (try dsimp only at hSw); obtain ⟨s0, s1, s2⟩ := hSw; have d1 := D1.out; have d2 := D2.out; have d3 := D3.out; have d4 := D4.out; have d5 := D5.out; have d6 := D6.out; have d7 := D7.out; have d8 := D8.out; go_simp; try with_reducible rfl)
          try simp only [Act.put, List.setIfInBounds_toArray, List.set_cons_zero, List.set_cons_succ]
          refine hTake (i := 30) (v := ?v30f) (some 45) rfl rfl (by kernel_rfl) (by kernel_rfl) (by kernel_rfl) (fun _ _ _ h => h) (by rfl) (by assumption) ?hy30f ?hn30f
          case hy30f => (intro w hSw; (try dsimp only at hSw); obtain ⟨s0, s1, s2⟩ := hSw; have d1 := D1.out; have d2 := D2.out; have d3 := D3.out; have d4 := D4.out; have d5 := D5.out; have d6 := D6.out; have d7 := D7.out; have d8 := D8.out; go_simp; try with_reducible rfl)
          try simp only [Act.put, List.setIfInBounds_toArray, List.set_cons_zero, List.set_cons_succ]
          refine hTake (i := 31) (v := ?v31f) (some 46) rfl rfl (by kernel_rfl) (by kernel_rfl) (by kernel_rfl) (fun _ _ _ h => h) (by rfl) (by assumption) ?hy31f ?hn31f
          case hy31f => (intro w hSw; (try dsimp only at hSw); obtain ⟨s0, s1, s2⟩ := hSw; have d1 := D1.out; have d2 := D2.out; have d3 := D3.out; have d4 := D4.out; have d5 := D5.out; have d6 := D6.out; have d7 := D7.out; have d8 := D8.out; go_simp; try with_reducible rfl)
          try simp only [Act.put, List.setIfInBounds_toArray, List.set_cons_zero, List.set_cons_succ]
          refine hTake (i := 32) (v := ?v32f) (some 47) rfl rfl (by kernel_rfl) (by kernel_rfl) (by kernel_rfl) (fun _ _ _ h => h) (by rfl) (by assumption) ?hy32f ?hn32f
          case hy32f => (intro w hSw; (try dsimp only at hSw); obtain ⟨s0, s1, s2⟩ := hSw; have d1 := D1.out; have d2 := D2.out; have d3 := D3.out; have d4 := D4.out; have d5 := D5.out; have d6 := D6.out; have d7 := D7.out; have d8 := D8.out; go_simp; try with_reducible rfl)
          try simp only [Act.put, List.setIfInBounds_toArray, List.set_cons_zero, List.set_cons_succ]
          refine wpAnyH_done (by kernel_rfl) ?_ _
          go_wp2
          go_ret
          exact ⟨ret_int (by rw [HT.out, HF.out]; rfl), HW1.out.drew⟩
        · have N5 : Hid (y1 < x1) := hide (by omega)
          have D6 : Hid (decide (x1 ≤ y1) = false) := hide (decide_eq_false n5)
          have HF : Hid (goodL 0 l = goodL x1 (l.drop (p + 1 + 1))) := hide (by rw [HG.out]; rw [decide_eq_true N5.out, HO.out, N4.out, decide_eq_true N3.out]; rfl)
          try clear n1
          try clear n2
          try clear n3
          try clear n4
          try clear n5
          go_wp2_with fail
          refine wp_region_held_drew (S := (fun W : World => W.cell? ⟨wr.heap.size, 0, none⟩ = some (.int .i64 x1) ∧ W.cell? ⟨wr.heap.size, 1, none⟩ = some (.int .u8 x2) ∧ W.cell? ⟨bs, off + p * 2, none⟩ = some (.int .i64 y1))) (by kernel_rfl) ?hSg (fun hHeld => ?_)
          case hSg => exact HSY.out
          refine hTake (i := 0) (v := ?v0g) (some 15) rfl rfl (by kernel_rfl) (by kernel_rfl) (by kernel_rfl) (fun _ _ _ h => h) (by rfl) (by assumption) ?hy0g ?hn0g
          case hy0g => (intro w hSw; (try dsimp only at hSw); obtain ⟨s0, s1, s2⟩ := hSw; have d1 := D1.out; have d2 := D2.out; have d3 := D3.out; have d4 := D4.out; have d5 := D5.out; have d6 := D6.out; have d7 := D7.out; have d8 := D8.out; go_simp; try with_reducible rfl)
          try simp only [Act.put, List.setIfInBounds_toArray, List.set_cons_zero, List.set_cons_succ]
          refine hTake (i := 1) (v := ?v1g) (some 16) rfl rfl (by kernel_rfl) (by kernel_rfl) (by kernel_rfl) (fun _ _ _ h => h) (by rfl) (by assumption) ?hy1g ?hn1g
          case hy1g => (intro w hSw; (try dsimp only at hSw); obtain ⟨s0, s1, s2⟩ := hSw; have d1 := D1.out; have d2 := D2.out; have d3 := D3.out; have d4 := D4.out; have d5 := D5.out; have d6 := D6.out; have d7 := D7.out; have d8 := D8.out; go_simp; try with_reducible rfl)
          try simp only [Act.put, List.setIfInBounds_toArray, List.set_cons_zero, List.set_cons_succ]
          refine hTake (i := 2) (v := ?v2g) (some 17) rfl rfl (by kernel_rfl) (by kernel_rfl) (by kernel_rfl) (fun _ _ _ h => h) (by rfl) (by assumption) ?hy2g ?hn2g
          case hy2g => (intro w hSw; (try dsimp only at hSw); obtain ⟨s0, s1, s2⟩ := hSw; have d1 := D1.out; have d2 := D2.out; have d3 := D3.out; have d4 := D4.out; have d5 := D5.out; have d6 := D6.out; have d7 := D7.out; have d8 := D8.out; go_simp; try with_reducible rfl)
          try simp only [Act.put, List.setIfInBounds_toArray, List.set_cons_zero, List.set_cons_succ]
          refine hTake (i := 3) (v := ?v3g) (some 18) rfl rfl (by kernel_rfl) (by kernel_rfl) (by kernel_rfl) (fun _ _ _ h => h) (by rfl) (by assumption) ?hy3g ?hn3g
          case hy3g => (intro w hSw; (try dsimp only at hSw); obtain ⟨s0, s1, s2⟩ := hSw; have d1 := D1.out; have d2 := D2.out; have d3 := D3.out; have d4 := D4.out; have d5 := D5.out; have d6 := D6.out; have d7 := D7.out; have d8 := D8.out; go_simp; try with_reducible rfl)
          try simp only [Act.put, List.setIfInBounds_toArray, List.set_cons_zero, List.set_cons_succ]
          refine hTake (i := 4) (v := ?v4g) (some 19) rfl rfl (by kernel_rfl) (by kernel_rfl) (by kernel_rfl) (fun _ _ _ h => h) (by rfl) (by assumption) ?hy4g ?hn4g
          case hy4g => (intro w hSw; (try dsimp only at hSw); obtain ⟨s0, s1, s2⟩ := hSw; have d1 := D1.out; have d2 := D2.out; have d3 := D3.out; have d4 := D4.out; have d5 := D5.out; have d6 := D6.out; have d7 := D7.out; have d8 := D8.out; go_simp; try with_reducible rfl)
          try simp only [Act.put, List.setIfInBounds_toArray, List.set_cons_zero, List.set_cons_succ]
          refine hTake (i := 5) (v := ?v5g) (some 20) rfl rfl (by kernel_rfl) (by kernel_rfl) (by kernel_rfl) (fun _ _ _ h => h) (by rfl) (by assumption) ?hy5g ?hn5g
          case hy5g => (intro w hSw; (try dsimp only at hSw); obtain ⟨s0, s1, s2⟩ := hSw; have d1 := D1.out; have d2 := D2.out; have d3 := D3.out; have d4 := D4.out; have d5 := D5.out; have d6 := D6.out; have d7 := D7.out; have d8 := D8.out; go_simp; try with_reducible rfl)
          try simp only [Act.put, List.setIfInBounds_toArray, List.set_cons_zero, List.set_cons_succ]
          refine hTake (i := 6) (v := ?v6g) (some 21) rfl rfl (by kernel_rfl) (by kernel_rfl) (by kernel_rfl) (fun _ _ _ h => h) (by rfl) (by assumption) ?hy6g ?hn6g
          case hy6g => (intro w hSw; (try dsimp only at hSw); obtain ⟨s0, s1, s2⟩ := hSw; have d1 := D1.out; have d2 := D2.out; have d3 := D3.out; have d4 := D4.out; have d5 := D5.out; have d6 := D6.out; have d7 := D7.out; have d8 := D8.out; go_simp; try with_reducible rfl)
          try simp only [Act.put, List.setIfInBounds_toArray, List.set_cons_zero, List.set_cons_succ]
          refine hTake (i := 7) (v := ?v7g) (some 22) rfl rfl (by kernel_rfl) (by kernel_rfl) (by kernel_rfl) (fun _ _ _ h => h) (by rfl) (by assumption) ?hy7g ?hn7g
          case hy7g => (intro w hSw; (try dsimp only at hSw); obtain ⟨s0, s1, s2⟩ := hSw; have d1 := D1.out; have d2 := D2.out; have d3 := D3.out; have d4 := D4.out; have d5 := D5.out; have d6 := D6.out; have d7 := D7.out; have d8 := D8.out; go_simp; try with_reducible rfl)
          try simp only [Act.put, List.setIfInBounds_toArray, List.set_cons_zero, List.set_cons_succ]
          refine hTake (i := 8) (v := ?v8g) (some 23) rfl rfl (by kernel_rfl) (by kernel_rfl) (by kernel_rfl) (fun _ _ _ h => h) (by rfl) (by assumption) ?hy8g ?hn8g
          case hy8g => (intro w hSw; (try dsimp only at hSw); obtain ⟨s0, s1, s2⟩ := hSw; have d1 := D1.out; have d2 := D2.out; have d3 := D3.out; have d4 := D4.out; have d5 := D5.out; have d6 := D6.out; have d7 := D7.out; have d8 := D8.out; go_simp; try with_reducible rfl)
          try simp only [Act.put, List.setIfInBounds_toArray, List.set_cons_zero, List.set_cons_succ]
          refine hTake (i := 9) (v := ?v9g) (some 24) rfl rfl (by kernel_rfl) (by kernel_rfl) (by kernel_rfl) (fun _ _ _ h => h) (by rfl) (by assumption) ?hy9g ?hn9g
          case hy9g => (intro w hSw; (try dsimp only at hSw); obtain ⟨s0, s1, s2⟩ := hSw; have d1 := D1.out; have d2 := D2.out; have d3 := D3.out; have d4 := D4.out; have d5 := D5.out; have d6 := D6.out; have d7 := D7.out; have d8 := D8.out; go_simp; try with_reducible rfl)
          try simp only [Act.put, List.setIfInBounds_toArray, List.set_cons_zero, List.set_cons_succ]
          refine hTake (i := 10) (v := ?v10g) (some 25) rfl rfl (by kernel_rfl) (by kernel_rfl) (by kernel_rfl) (fun _ _ _ h => h) (by rfl) (by assumption) ?hy10g ?hn10g
          case hy10g => (intro w hSw; (try dsimp only at hSw); obtain ⟨s0, s1, s2⟩ := hSw; have d1 := D1.out; have d2 := D2.out; have d3 := D3.out; have d4 := D4.out; have d5 := D5.out; have d6 := D6.out; have d7 := D7.out; have d8 := D8.out; go_simp; try with_reducible rfl)
          try simp only [Act.put, List.setIfInBounds_toArray, List.set_cons_zero, List.set_cons_succ]
          refine hTake (i := 11) (v := ?v11g) (some 26) rfl rfl (by kernel_rfl) (by kernel_rfl) (by kernel_rfl) (fun _ _ _ h => h) (by rfl) (by assumption) ?hy11g ?hn11g
          case hy11g => (intro w hSw; (try dsimp only at hSw); obtain ⟨s0, s1, s2⟩ := hSw; have d1 := D1.out; have d2 := D2.out; have d3 := D3.out; have d4 := D4.out; have d5 := D5.out; have d6 := D6.out; have d7 := D7.out; have d8 := D8.out; go_simp; try with_reducible rfl)
          try simp only [Act.put, List.setIfInBounds_toArray, List.set_cons_zero, List.set_cons_succ]
          refine hTake (i := 12) (v := ?v12g) (some 27) rfl rfl (by kernel_rfl) (by kernel_rfl) (by kernel_rfl) (fun _ _ _ h => h) (by rfl) (by assumption) ?hy12g ?hn12g
          case hy12g => (intro w hSw; (try dsimp only at hSw); obtain ⟨s0, s1, s2⟩ := hSw; have d1 := D1.out; have d2 := D2.out; have d3 := D3.out; have d4 := D4.out; have d5 := D5.out; have d6 := D6.out; have d7 := D7.out; have d8 := D8.out; go_simp; try with_reducible rfl)
          try simp only [Act.put, List.setIfInBounds_toArray, List.set_cons_zero, List.set_cons_succ]
          refine hTake (i := 13) (v := ?v13g) (some 28) rfl rfl (by kernel_rfl) (by kernel_rfl) (by kernel_rfl) (fun _ _ _ h => h) (by rfl) (by assumption) ?hy13g ?hn13g
          case hy13g => (intro w hSw; (try dsimp only at hSw); obtain ⟨s0, s1, s2⟩ := hSw; have d1 := D1.out; have d2 := D2.out; have d3 := D3.out; have d4 := D4.out; have d5 := D5.out; have d6 := D6.out; have d7 := D7.out; have d8 := D8.out; go_simp; try with_reducible rfl)
          try simp only [Act.put, List.setIfInBounds_toArray, List.set_cons_zero, List.set_cons_succ]
          refine hTake (i := 14) (v := ?v14g) (some 29) rfl rfl (by kernel_rfl) (by kernel_rfl) (by kernel_rfl) (fun _ _ _ h => h) (by rfl) (by assumption) ?hy14g ?hn14g
          case hy14g => (intro w hSw; (try dsimp only at hSw); obtain ⟨s0, s1, s2⟩ := hSw; have d1 := D1.out; have d2 := D2.out; have d3 := D3.out; have d4 := D4.out; have d5 := D5.out; have d6 := D6.out; have d7 := D7.out; have d8 := D8.out; go_simp; try with_reducible rfl)
          try simp only [Act.put, List.setIfInBounds_toArray, List.set_cons_zero, List.set_cons_succ]
          refine hTake (i := 15) (v := ?v15g) (some 30) rfl rfl (by kernel_rfl) (by kernel_rfl) (by kernel_rfl) (fun _ _ _ h => h) (by rfl) (by assumption) ?hy15g ?hn15g
          case hy15g => (intro w hSw; (try dsimp only at hSw); obtain ⟨s0, s1, s2⟩ := hSw; have d1 := D1.out; have d2 := D2.out; have d3 := D3.out; have d4 := D4.out; have d5 := D5.out; have d6 := D6.out; have d7 := D7.out; have d8 := D8.out; go_simp; try with_reducible rfl)
          try simp only [Act.put, List.setIfInBounds_toArray, List.set_cons_zero, List.set_cons_succ]
          refine hTake (i := 16) (v := ?v16g) (some 31) rfl rfl (by kernel_rfl) (by kernel_rfl) (by kernel_rfl) (fun _ _ _ h => h) (by rfl) (by assumption) ?hy16g ?hn16g
          case hy16g => (intro w hSw; (try dsimp only at hSw); obtain ⟨s0, s1, s2⟩ := hSw; have d1 := D1.out; have d2 := D2.out; have d3 := D3.out; have d4 := D4.out; have d5 := D5.out; have d6 := D6.out; have d7 := D7.out; have d8 := D8.out; go_simp; try with_reducible rfl)
          try simp only [Act.put, List.setIfInBounds_toArray, List.set_cons_zero, List.set_cons_succ]
          refine hTake (i := 17) (v := ?v17g) (some 32) rfl rfl (by kernel_rfl) (by kernel_rfl) (by kernel_rfl) (fun _ _ _ h => h) (by rfl) (by assumption) ?hy17g ?hn17g
          case hy17g => (intro w hSw; (try dsimp only at hSw); obtain ⟨s0, s1, s2⟩ := hSw; have d1 := D1.out; have d2 := D2.out; have d3 := D3.out; have d4 := D4.out; have d5 := D5.out; have d6 := D6.out; have d7 := D7.out; have d8 := D8.out; go_simp; try with_reducible rfl)
          try simp only [Act.put, List.setIfInBounds_toArray, List.set_cons_zero, List.set_cons_succ]
          refine hTake (i := 18) (v := ?v18g) (some 33) rfl rfl (by kernel_rfl) (by kernel_rfl) (by kernel_rfl) (fun _ _ _ h => h) (by rfl) (by assumption) ?hy18g ?hn18g
          case hy18g => (intro w hSw; (try dsimp only at hSw); obtain ⟨s0, s1, s2⟩ := hSw; have d1 := D1.out; have d2 := D2.out; have d3 := D3.out; have d4 := D4.out; have d5 := D5.out; have d6 := D6.out; have d7 := D7.out; have d8 := D8.out; go_simp; try with_reducible rfl)
          try simp only [Act.put, List.setIfInBounds_toArray, List.set_cons_zero, List.set_cons_succ]
          refine hTake (i := 19) (v := ?v19g) (some 34) rfl rfl (by kernel_rfl) (by kernel_rfl) (by kernel_rfl) (fun _ _ _ h => h) (by rfl) (by assumption) ?hy19g ?hn19g
          case hy19g => (intro w hSw; (try dsimp only at hSw); obtain ⟨s0, s1, s2⟩ := hSw; have d1 := D1.out; have d2 := D2.out; have d3 := D3.out; have d4 := D4.out; have d5 := D5.out; have d6 := D6.out; have d7 := D7.out; have d8 := D8.out; go_simp; try with_reducible rfl)
          try simp only [Act.put, List.setIfInBounds_toArray, List.set_cons_zero, List.set_cons_succ]
          refine hTake (i := 20) (v := ?v20g) (some 35) rfl rfl (by kernel_rfl) (by kernel_rfl) (by kernel_rfl) (fun _ _ _ h => h) (by rfl) (by assumption) ?hy20g ?hn20g
          case hy20g => (intro w hSw; (try dsimp only at hSw); obtain ⟨s0, s1, s2⟩ := hSw; have d1 := D1.out; have d2 := D2.out; have d3 := D3.out; have d4 := D4.out; have d5 := D5.out; have d6 := D6.out; have d7 := D7.out; have d8 := D8.out; go_simp; try with_reducible rfl)
          try simp only [Act.put, List.setIfInBounds_toArray, List.set_cons_zero, List.set_cons_succ]
          refine hTake (i := 21) (v := ?v21g) (some 36) rfl rfl (by kernel_rfl) (by kernel_rfl) (by kernel_rfl) (fun _ _ _ h => h) (by rfl) (by assumption) ?hy21g ?hn21g
          case hy21g => (intro w hSw; (try dsimp only at hSw); obtain ⟨s0, s1, s2⟩ := hSw; have d1 := D1.out; have d2 := D2.out; have d3 := D3.out; have d4 := D4.out; have d5 := D5.out; have d6 := D6.out; have d7 := D7.out; have d8 := D8.out; go_simp; try with_reducible rfl)
          try simp only [Act.put, List.setIfInBounds_toArray, List.set_cons_zero, List.set_cons_succ]
          refine hTake (i := 22) (v := ?v22g) (some 37) rfl rfl (by kernel_rfl) (by kernel_rfl) (by kernel_rfl) (fun _ _ _ h => h) (by rfl) (by assumption) ?hy22g ?hn22g
          case hy22g => (intro w hSw; (try dsimp only at hSw); obtain ⟨s0, s1, s2⟩ := hSw; have d1 := D1.out; have d2 := D2.out; have d3 := D3.out; have d4 := D4.out; have d5 := D5.out; have d6 := D6.out; have d7 := D7.out; have d8 := D8.out; go_simp; try with_reducible rfl)
          try simp only [Act.put, List.setIfInBounds_toArray, List.set_cons_zero, List.set_cons_succ]
          refine hTake (i := 23) (v := ?v23g) (some 38) rfl rfl (by kernel_rfl) (by kernel_rfl) (by kernel_rfl) (fun _ _ _ h => h) (by rfl) (by assumption) ?hy23g ?hn23g
          case hy23g => (intro w hSw; (try dsimp only at hSw); obtain ⟨s0, s1, s2⟩ := hSw; have d1 := D1.out; have d2 := D2.out; have d3 := D3.out; have d4 := D4.out; have d5 := D5.out; have d6 := D6.out; have d7 := D7.out; have d8 := D8.out; go_simp; try with_reducible rfl)
          try simp only [Act.put, List.setIfInBounds_toArray, List.set_cons_zero, List.set_cons_succ]
          refine hTake (i := 24) (v := ?v24g) (some 39) rfl rfl (by kernel_rfl) (by kernel_rfl) (by kernel_rfl) (fun _ _ _ h => h) (by rfl) (by assumption) ?hy24g ?hn24g
          case hy24g => (intro w hSw; (try dsimp only at hSw); obtain ⟨s0, s1, s2⟩ := hSw; have d1 := D1.out; have d2 := D2.out; have d3 := D3.out; have d4 := D4.out; have d5 := D5.out; have d6 := D6.out; have d7 := D7.out; have d8 := D8.out; go_simp; try with_reducible rfl)
          try simp only [Act.put, List.setIfInBounds_toArray, List.set_cons_zero, List.set_cons_succ]
          refine hTake (i := 25) (v := ?v25g) (some 40) rfl rfl (by kernel_rfl) (by kernel_rfl) (by kernel_rfl) (fun _ _ _ h => h) (by rfl) (by assumption) ?hy25g ?hn25g
          case hy25g => (intro w hSw; (try dsimp only at hSw); obtain ⟨s0, s1, s2⟩ := hSw; have d1 := D1.out; have d2 := D2.out; have d3 := D3.out; have d4 := D4.out; have d5 := D5.out; have d6 := D6.out; have d7 := D7.out; have d8 := D8.out; go_simp; try with_reducible rfl)
          try simp only [Act.put, List.setIfInBounds_toArray, List.set_cons_zero, List.set_cons_succ]
          refine hTake (i := 26) (v := ?v26g) (some 41) rfl rfl (by kernel_rfl) (by kernel_rfl) (by kernel_rfl) (fun _ _ _ h => h) (by rfl) (by assumption) ?hy26g ?hn26g
          case hy26g => (intro w hSw; (try dsimp only at hSw); obtain ⟨s0, s1, s2⟩ := hSw; have d1 := D1.out; have d2 := D2.out; have d3 := D3.out; have d4 := D4.out; have d5 := D5.out; have d6 := D6.out; have d7 := D7.out; have d8 := D8.out; go_simp; try with_reducible rfl)
          try simp only [Act.put, List.setIfInBounds_toArray, List.set_cons_zero, List.set_cons_succ]
          refine hTake (i := 27) (v := ?v27g) (some 42) rfl rfl (by kernel_rfl) (by kernel_rfl) (by kernel_rfl) (fun _ _ _ h => h) (by rfl) (by assumption) ?hy27g ?hn27g
          case hy27g => (intro w hSw; (try dsimp only at hSw); obtain ⟨s0, s1, s2⟩ := hSw; have d1 := D1.out; have d2 := D2.out; have d3 := D3.out; have d4 := D4.out; have d5 := D5.out; have d6 := D6.out; have d7 := D7.out; have d8 := D8.out; go_simp; try with_reducible rfl)
          try simp only [Act.put, List.setIfInBounds_toArray, List.set_cons_zero, List.set_cons_succ]
          refine hTake (i := 28) (v := ?v28g) (some 43) rfl rfl (by kernel_rfl) (by kernel_rfl) (by kernel_rfl) (fun _ _ _ h => h) (by rfl) (by assumption) ?hy28g ?hn28g
          case hy28g => (intro w hSw; (try dsimp only at hSw); obtain ⟨s0, s1, s2⟩ := hSw; have d1 := D1.out; have d2 := D2.out; have d3 := D3.out; have d4 := D4.out; have d5 := D5.out; have d6 := D6.out; have d7 := D7.out; have d8 := D8.out; go_simp; try with_reducible rfl)
          try simp only [Act.put, List.setIfInBounds_toArray, List.set_cons_zero, List.set_cons_succ]
          refine hTake (i := 29) (v := ?v29g) (some 44) rfl rfl (by kernel_rfl) (by kernel_rfl) (by kernel_rfl) (fun _ _ _ h => h) (by rfl) (by assumption) ?hy29g ?hn29g
          case hy29g => (intro w hSw; (try dsimp only at hSw); obtain ⟨s0, s1, s2⟩ := hSw; have d1 := D1.out; have d2 := D2.out; have d3 := D3.out; have d4 := D4.out; have d5 := D5.out; have d6 := D6.out; have d7 := D7.out; have d8 := D8.out; go_simp; try with_reducible rfl)
          try simp only [Act.put, List.setIfInBounds_toArray, List.set_cons_zero, List.set_cons_succ]
          refine hTake (i := 30) (v := ?v30g) (some 45) rfl rfl (by kernel_rfl) (by kernel_rfl) (by kernel_rfl) (fun _ _ _ h => h) (by rfl) (by assumption) ?hy30g ?hn30g
          case hy30g => (intro w hSw; (try dsimp only at hSw); obtain ⟨s0, s1, s2⟩ := hSw; have d1 := D1.out; have d2 := D2.out; have d3 := D3.out; have d4 := D4.out; have d5 := D5.out; have d6 := D6.out; have d7 := D7.out; have d8 := D8.out; go_simp; try with_reducible rfl)
          try simp only [Act.put, List.setIfInBounds_toArray, List.set_cons_zero, List.set_cons_succ]
          refine hTake (i := 31) (v := ?v31g) (some 46) rfl rfl (by kernel_rfl) (by kernel_rfl) (by kernel_rfl) (fun _ _ _ h => h) (by rfl) (by assumption) ?hy31g ?hn31g
          case hy31g => (intro w hSw; (try dsimp only at hSw); obtain ⟨s0, s1, s2⟩ := hSw; have d1 := D1.out; have d2 := D2.out; have d3 := D3.out; have d4 := D4.out; have d5 := D5.out; have d6 := D6.out; have d7 := D7.out; have d8 := D8.out; go_simp; try with_reducible rfl)
          try simp only [Act.put, List.setIfInBounds_toArray, List.set_cons_zero, List.set_cons_succ]
          refine hTake (i := 32) (v := ?v32g) (some 47) rfl rfl (by kernel_rfl) (by kernel_rfl) (by kernel_rfl) (fun _ _ _ h => h) (by rfl) (by assumption) ?hy32g ?hn32g
          case hy32g => (intro w hSw; (try dsimp only at hSw); obtain ⟨s0, s1, s2⟩ := hSw; have d1 := D1.out; have d2 := D2.out; have d3 := D3.out; have d4 := D4.out; have d5 := D5.out; have d6 := D6.out; have d7 := D7.out; have d8 := D8.out; go_simp; try with_reducible rfl)
          try simp only [Act.put, List.setIfInBounds_toArray, List.set_cons_zero, List.set_cons_succ]
          refine wpAnyH_done (by kernel_rfl) ?_ _
          go_wp2
          go_roundw
          case rel => exact ⟨p + 1 + 1, x1, by omega, by simp, HF, hide (by intro h; omega), hide (fun _ => by rw [Nat.add_sub_cancel, HX.out]), hide HW1.out.drew⟩
          case measure => simp [intOf] <;> omega
    · obtain rfl : k = len := by omega
      have HE : Hid (goodL 0 l = true) := hide (by rw [HA.out, List.drop_of_length_le (by rw [HLN.out]; omega)]; rfl)
      go_wp2
      go_ret
      exact ⟨ret_int (by rw [HT.out, HE.out]; rfl), HW.out⟩
end Go.Proofs.YtdiciobdknddkaaDoor

/- MvccSwept, walked -/
import Derived.Test.YtpgdmkjfgmiacaaYd
namespace Go.Proofs.Ytpgdmkjfgmiacaa
open Go.RowKit
set_option maxRecDepth 40000 in
set_option maxHeartbeats 4000000 in
theorem sweptWalk (a : Option Addr) (len cap : Nat) (l : List Vr) (low t ask : Nat) (key : ByteArray) (w : World) (hL : IsV w a len cap l) :
    Calls Try.prog 6 #[.agg #[.slice a len cap, .int .u64 (low : Nat)], .int .u64 (t : Nat), .int .u64 (ask : Nat), .string key] w fun e w' => e = .returned (.bool true) ∧ Below w.heap.size w w' := by
  have HB0 : Hid (Below w.heap.size w (w.alloc (.cells #[.slice a len cap, .int .u64 (low : Nat)] 25))) := hide ((Below.refl _ w).alloc (Nat.le_refl _) _)
  have HV0 := hide (hL.below HB0.out)
  have HT0 : Hid (Two (w.alloc (.cells #[.slice a len cap, .int .u64 (low : Nat)] 25)) w.heap.size (.slice a len cap) (.int .u64 (low : Nat))) := hide (heap_alloc_new _ _)
  have HLN := hide hL.1
  clear hL
  go_enter Try.func6, Try.ntmps6
  go_wp2_with fail
  generalize (w.alloc (.cells #[.slice a len cap, .int .u64 (low : Nat)] 25)) = V at *
  refine (lives_any V).mono ?_
  rintro e w1 ⟨rfl, hb1⟩
  have HB1 := hide (HB0.out.trans (hb1.mono HB0.out.size))
  have HV1 := hide (HV0.out.below hb1)
  have HT1 : Hid (Two w1 w.heap.size (.slice a len cap) (.int .u64 (low : Nat))) := hide ((hb1.block _ (heap_lt HT0.out)).trans HT0.out)
  obtain ⟨c0, c1'⟩ := cells2_of_blk HT1.out
  clear hb1 HB0 HV0 HT0
  have HS1 := hide (sweep_any a len cap low t l w1 HV1.out)
  go_wp2_with fail
  refine HS1.out.mono ?_
  rintro e w2 ⟨a2, k2, rfl, hI2, hb2⟩
  clear HS1 c0 c1'
  by_cases hE : sweepE low l t = 0
  rotate_left
  · unfold sweepR at hI2 ⊢
    simp only [if_neg hE] at hI2 ⊢
    have HBa : Hid (Below w.heap.size w (w2.alloc (.cells #[.slice a2 0 k2, .int .u64 0] 25))) := hide ((HB1.out.trans (hb2.mono HB1.out.size)).alloc (Nat.le_trans HB1.out.size hb2.size) _)
    generalize sweepE low l t = R at *
    clear hI2 hb2 HB1 HV1 HT1
    go_wp2
    go_ret
    exact ⟨rfl, HBa.out⟩
  rw [sweepR_yes hE] at hI2 ⊢
  have HGU : Hid (goodB t (l.filter (keepB t l)) = true) := hide (good_sub (sweepE_iff.1 hE).1 (by have := (sweepE_iff.1 hE).2.2; omega) _)
  have HUL : Hid ((l.filter (keepB t l)).length ≤ len) := hide (by rw [← HLN.out]; exact List.length_filter_le _ _)
  have HGE := hide (fun (ha : ¬ ask < t) => swept_get hE ha key)
  have HOL := hide (fun (ha : ask < t) => swept_old hE ha key)
  have HAT := hide (fun i hi ht => swept_at (sweepE_iff.1 hE).1 (t := t) (i := i) hi ht)
  generalize l.filter (keepB t l) = u at *
  dsimp only at hI2 ⊢
  clear hE
  have HBa : Hid (Below w2.heap.size w2 (w2.alloc (.cells #[.slice a2 u.length k2, .int .u64 (t : Nat)] 25))) := hide ((Below.refl _ w2).alloc (Nat.le_refl _) _)
  have HB2a := hide (HB1.out.trans (hb2.mono HB1.out.size))
  have HB2 := hide (HB2a.out.trans (HBa.out.mono HB2a.out.size))
  have HV2 := hide ((HV1.out.below hb2).below HBa.out)
  have HU2 := hide (hI2.below HBa.out)
  have HT2 : Hid (Two (w2.alloc (.cells #[.slice a2 u.length k2, .int .u64 (t : Nat)] 25)) w.heap.size (.slice a len cap) (.int .u64 (low : Nat))) := hide ((HBa.out.block _ (Nat.lt_of_lt_of_le (heap_lt HT1.out) hb2.size)).trans ((hb2.block _ (heap_lt HT1.out)).trans HT1.out))
  have HTU2 : Hid (Two (w2.alloc (.cells #[.slice a2 u.length k2, .int .u64 (t : Nat)] 25)) w2.heap.size (.slice a2 u.length k2) (.int .u64 (t : Nat))) := hide (heap_alloc_new _ _)
  have hcm : k2 ≤ 9223372036854775807 := hI2.2.2.1
  have hcap := hI2.2.1
  clear hI2 hb2 HB1 HV1 HT1 HBa HB2a
  generalize hB9 : w2.heap.size = B9 at *
  have HB9 := hide hB9
  clear hB9
  go_wp2_with fail
  rw [HB9.out]
  clear HB9
  generalize w2.alloc (.cells #[.slice a2 u.length k2, .int .u64 (t : Nat)] 25) = W2 at *
  have HCK := hide (check_any a2 u.length k2 t u W2 HU2.out)
  rw [show checkE t u = 0 by unfold checkE; rw [if_pos HGU.out]] at HCK
  refine HCK.out.mono ?_
  rintro e w3 ⟨rfl, hb3⟩
  have HB3 := hide (HB2.out.trans (hb3.mono HB2.out.size))
  have HV3 := hide (HV2.out.below hb3)
  have HU3 := hide (HU2.out.below hb3)
  have HT3 : Hid (Two w3 w.heap.size (.slice a len cap) (.int .u64 (low : Nat))) := hide ((hb3.block _ (heap_lt HT2.out)).trans HT2.out)
  have HTU3 : Hid (Two w3 B9 (.slice a2 u.length k2) (.int .u64 (t : Nat))) := hide ((hb3.block _ (heap_lt HTU2.out)).trans HTU2.out)
  obtain ⟨c0, c1'⟩ := cells2_of_blk HT3.out
  obtain ⟨d0, d1⟩ := cells2_of_blk HTU3.out
  have hulI : ¬ (len : Int) < (u.length : Int) := by have := HUL.out; omega
  clear hb3 HB2 HV2 HU2 HT2 HTU2 HCK HGU
  generalize hun : u.length = un at *
  clear hun
  have hulN : decide (len < un) = false := decide_eq_false (by omega)
  go_wp2
  go_loopw [57] (fun v wr => ∃ k : Nat, k ≤ un ∧ v = .int .i64 (k : Nat) ∧ Hid (Below w3.heap.size w3 wr)) (fun v _ => un - (intOf v).toNat)
  case atStart => exact ⟨0, Nat.zero_le _, rfl, hide (Below.refl _ _)⟩
  case round =>
    obtain ⟨k, hk, rfl, HI⟩ := hrel
    by_cases hlt : k < un
    · have HUr := hide (HU3.out.below HI.out)
      obtain ⟨b, off, rfl, hbs, z0, z1, z2, z3⟩ := HUr.out.2.2.2 k hlt
      have HTUr : Hid (Two wr B9 (.slice (some ⟨b, off, none⟩) un k2) (.int .u64 (t : Nat))) := hide ((HI.out.block _ (heap_lt HTU3.out)).trans HTU3.out)
      have HPR : Hid (∀ i, k = i + 1 → wr.cell? ⟨b, off + i * 4, none⟩ = some (.string (u.getD i Vr0).key)) := hide (fun i hi => by
        obtain ⟨b', off', e', _, y0, _⟩ := HUr.out.2.2.2 i (by omega)
        cases e'
        exact y0)
      have HXA := hide (HAT.out k hlt)
      generalize hx : u.getD k Vr0 = x at *
      clear hx
      obtain ⟨x1, x2, x3, x4⟩ := x
      dsimp only at z0 z1 z2 z3
      have HBN : ∀ o, Hid (Below wr.heap.size wr (wr.alloc o).drew) := fun o => hide ((Below.refl _ wr).alloc (Nat.le_refl _) o).drew
      have hw1 : IntKind.i64.wrap ((k : Int) + 1) = (k : Int) + 1 := wr64' (by omega) (by omega)
      have hi2 : (k : Int) < (un : Int) := by omega
      have hi4 : (0 : Int) ≤ (k : Int) := by omega
      have HKEEP := hide (fun o => HI.out.trans ((HBN o).out.mono HI.out.size))
      have HNB := hide (fun o (j : Nat) => (World.cell?_of_block ((HBN o).out.block B9 (heap_lt HTUr.out)) : (wr.alloc o).drew.cell? ⟨B9, j, none⟩ = wr.cell? ⟨B9, j, none⟩))
      obtain ⟨g0, g1⟩ := cells2_of_blk HTUr.out
      have HNEW := hide (fun (v : Bool) => heap_alloc_new wr (.cells #[.string x1, .int .u64 (x2 : Nat), .string x3, .bool v] 51))
      clear c0 c1' d0 d1
      by_cases hxt : x2 ≤ t
      · have hxI : (x2 : Int) ≤ (t : Int) := by omega
        have hxD : decide ((x2 : Int) ≤ (t : Int)) = true := decide_eq_true hxI
        obtain ⟨h4, h5⟩ := HXA.out hxt
        dsimp only at h4 h5
        subst h4
        by_cases hk0 : k = 0
        · subst hk0
          simp only [Nat.zero_mul, Nat.add_zero] at z0 z1 z2 z3
          have hi9 : (0 : Int) < (un : Int) := by omega
          have HS : Hid ((wr.alloc (.cells #[.string x1, .int .u64 (x2 : Nat), .string x3, .bool false] 51)).drew.cell? ⟨B9, 0, none⟩ = some (.slice (some ⟨b, off, none⟩) un k2) ∧ (wr.alloc (.cells #[.string x1, .int .u64 (x2 : Nat), .string x3, .bool false] 51)).drew.cell? ⟨wr.heap.size, 0, none⟩ = some (.string x1) ∧ (wr.alloc (.cells #[.string x1, .int .u64 (x2 : Nat), .string x3, .bool false] 51)).drew.cell? ⟨wr.heap.size, 1, none⟩ = some (.int .u64 (x2 : Nat)) ∧ (wr.alloc (.cells #[.string x1, .int .u64 (x2 : Nat), .string x3, .bool false] 51)).drew.cell? ⟨wr.heap.size, 2, none⟩ = some (.string x3) ∧ (wr.alloc (.cells #[.string x1, .int .u64 (x2 : Nat), .string x3, .bool false] 51)).drew.cell? ⟨wr.heap.size, 3, none⟩ = some (.bool false)) := hide ⟨(HNB.out _ 0).trans g0, cell_blk (HNEW.out false) rfl, cell_blk (HNEW.out false) rfl, cell_blk (HNEW.out false) rfl, cell_blk (HNEW.out false) rfl⟩
          have HK2 := hide (HKEEP.out (.cells #[.string x1, .int .u64 (x2 : Nat), .string x3, .bool false] 51))
          clear h5 HXA HNEW HNB HPR g0 g1
          go_wp2_with fail
          refine wp_region_held_drew (S := (fun W : World => W.cell? ⟨B9, 0, none⟩ = some (.slice (some ⟨b, off, none⟩) un k2) ∧ W.cell? ⟨wr.heap.size, 0, none⟩ = some (.string x1) ∧ W.cell? ⟨wr.heap.size, 1, none⟩ = some (.int .u64 (x2 : Nat)) ∧ W.cell? ⟨wr.heap.size, 2, none⟩ = some (.string x3) ∧ W.cell? ⟨wr.heap.size, 3, none⟩ = some (.bool false))) (by kernel_rfl) ?hSpa (fun hHeld => ?_)
          case hSpa => exact HS.out
          refine hTake (i := 0) (v := ?v0pa) (some 62) rfl rfl (by kernel_rfl) (by kernel_rfl) (by kernel_rfl) (fun _ _ _ h => h) (by rfl) (by assumption) ?hy0pa ?hn0pa
          case hy0pa => (intro w hSw; (try dsimp only at hSw); go_simp; try with_reducible rfl)
          try simp only [Act.put, List.setIfInBounds_toArray, List.set_cons_zero, List.set_cons_succ]
          refine hTake (i := 1) (v := ?v1pa) (some 63) rfl rfl (by kernel_rfl) (by kernel_rfl) (by kernel_rfl) (fun _ _ _ h => h) (by rfl) (by assumption) ?hy1pa ?hn1pa
          case hy1pa => (intro w hSw; (try dsimp only at hSw); go_simp; try with_reducible rfl)
          try simp only [Act.put, List.setIfInBounds_toArray, List.set_cons_zero, List.set_cons_succ]
          refine hTake (i := 2) (v := ?v2pa) (some 64) rfl rfl (by kernel_rfl) (by kernel_rfl) (by kernel_rfl) (fun _ _ _ h => h) (by rfl) (by assumption) ?hy2pa ?hn2pa
          case hy2pa => (intro w hSw; (try dsimp only at hSw); go_simp; try with_reducible rfl)
          try simp only [Act.put, List.setIfInBounds_toArray, List.set_cons_zero, List.set_cons_succ]
          refine hTake (i := 3) (v := ?v3pa) (some 65) rfl rfl (by kernel_rfl) (by kernel_rfl) (by kernel_rfl) (fun _ _ _ h => h) (by rfl) (by assumption) ?hy3pa ?hn3pa
          case hy3pa => (intro w hSw; (try dsimp only at hSw); go_simp; try with_reducible rfl)
          try simp only [Act.put, List.setIfInBounds_toArray, List.set_cons_zero, List.set_cons_succ]
          refine hTake (i := 4) (v := ?v4pa) (some 66) rfl rfl (by kernel_rfl) (by kernel_rfl) (by kernel_rfl) (fun _ _ _ h => h) (by rfl) (by assumption) ?hy4pa ?hn4pa
          case hy4pa => (intro w hSw; (try dsimp only at hSw); go_simp; try with_reducible rfl)
          try simp only [Act.put, List.setIfInBounds_toArray, List.set_cons_zero, List.set_cons_succ]
          refine hTake (i := 5) (v := ?v5pa) (some 67) rfl rfl (by kernel_rfl) (by kernel_rfl) (by kernel_rfl) (fun _ _ _ h => h) (by rfl) (by assumption) ?hy5pa ?hn5pa
          case hy5pa => (intro w hSw; (try dsimp only at hSw); go_simp; try with_reducible rfl)
          try simp only [Act.put, List.setIfInBounds_toArray, List.set_cons_zero, List.set_cons_succ]
          refine hTake (i := 6) (v := ?v6pa) (some 68) rfl rfl (by kernel_rfl) (by kernel_rfl) (by kernel_rfl) (fun _ _ _ h => h) (by rfl) (by assumption) ?hy6pa ?hn6pa
          case hy6pa => (intro w hSw; (try dsimp only at hSw); go_simp; try with_reducible rfl)
          try simp only [Act.put, List.setIfInBounds_toArray, List.set_cons_zero, List.set_cons_succ]
          refine hTake (i := 7) (v := ?v7pa) (some 69) rfl rfl (by kernel_rfl) (by kernel_rfl) (by kernel_rfl) (fun _ _ _ h => h) (by rfl) (by assumption) ?hy7pa ?hn7pa
          case hy7pa => (intro w hSw; (try dsimp only at hSw); go_simp; try with_reducible rfl)
          try simp only [Act.put, List.setIfInBounds_toArray, List.set_cons_zero, List.set_cons_succ]
          refine hTake (i := 8) (v := ?v8pa) (some 70) rfl rfl (by kernel_rfl) (by kernel_rfl) (by kernel_rfl) (fun _ _ _ h => h) (by rfl) (by assumption) ?hy8pa ?hn8pa
          case hy8pa => (intro w hSw; (try dsimp only at hSw); go_simp; try with_reducible rfl)
          try simp only [Act.put, List.setIfInBounds_toArray, List.set_cons_zero, List.set_cons_succ]
          refine hTake (i := 9) (v := ?v9pa) (some 71) rfl rfl (by kernel_rfl) (by kernel_rfl) (by kernel_rfl) (fun _ _ _ h => h) (by rfl) (by assumption) ?hy9pa ?hn9pa
          case hy9pa => (intro w hSw; (try dsimp only at hSw); go_simp; try with_reducible rfl)
          try simp only [Act.put, List.setIfInBounds_toArray, List.set_cons_zero, List.set_cons_succ]
          refine hTake (i := 10) (v := ?v10pa) (some 72) rfl rfl (by kernel_rfl) (by kernel_rfl) (by kernel_rfl) (fun _ _ _ h => h) (by rfl) (by assumption) ?hy10pa ?hn10pa
          case hy10pa => (intro w hSw; (try dsimp only at hSw); go_simp; try with_reducible rfl)
          try simp only [Act.put, List.setIfInBounds_toArray, List.set_cons_zero, List.set_cons_succ]
          refine hSkip (i := 11) (some 73) rfl rfl (by kernel_rfl) (by kernel_rfl) (by kernel_rfl) (fun _ _ _ h => h) (by rfl) (by assumption) ?_
          try simp only [Act.put, List.setIfInBounds_toArray, List.set_cons_zero, List.set_cons_succ]
          refine hSkip (i := 12) (some 74) rfl rfl (by kernel_rfl) (by kernel_rfl) (by kernel_rfl) (fun _ _ _ h => h) (by rfl) (by assumption) ?_
          try simp only [Act.put, List.setIfInBounds_toArray, List.set_cons_zero, List.set_cons_succ]
          refine hSkip (i := 13) (some 75) rfl rfl (by kernel_rfl) (by kernel_rfl) (by kernel_rfl) (fun _ _ _ h => h) (by rfl) (by assumption) ?_
          try simp only [Act.put, List.setIfInBounds_toArray, List.set_cons_zero, List.set_cons_succ]
          refine hSkip (i := 14) (some 76) rfl rfl (by kernel_rfl) (by kernel_rfl) (by kernel_rfl) (fun _ _ _ h => h) (by rfl) (by assumption) ?_
          try simp only [Act.put, List.setIfInBounds_toArray, List.set_cons_zero, List.set_cons_succ]
          refine hSkip (i := 15) (some 77) rfl rfl (by kernel_rfl) (by kernel_rfl) (by kernel_rfl) (fun _ _ _ h => h) (by rfl) (by assumption) ?_
          try simp only [Act.put, List.setIfInBounds_toArray, List.set_cons_zero, List.set_cons_succ]
          refine hSkip (i := 16) (some 78) rfl rfl (by kernel_rfl) (by kernel_rfl) (by kernel_rfl) (fun _ _ _ h => h) (by rfl) (by assumption) ?_
          try simp only [Act.put, List.setIfInBounds_toArray, List.set_cons_zero, List.set_cons_succ]
          refine hSkip (i := 17) (some 79) rfl rfl (by kernel_rfl) (by kernel_rfl) (by kernel_rfl) (fun _ _ _ h => h) (by rfl) (by assumption) ?_
          try simp only [Act.put, List.setIfInBounds_toArray, List.set_cons_zero, List.set_cons_succ]
          refine hSkip (i := 18) (some 80) rfl rfl (by kernel_rfl) (by kernel_rfl) (by kernel_rfl) (fun _ _ _ h => h) (by rfl) (by assumption) ?_
          try simp only [Act.put, List.setIfInBounds_toArray, List.set_cons_zero, List.set_cons_succ]
          refine hSkip (i := 19) (some 81) rfl rfl (by kernel_rfl) (by kernel_rfl) (by kernel_rfl) (fun _ _ _ h => h) (by rfl) (by assumption) ?_
          try simp only [Act.put, List.setIfInBounds_toArray, List.set_cons_zero, List.set_cons_succ]
          refine hSkip (i := 20) (some 82) rfl rfl (by kernel_rfl) (by kernel_rfl) (by kernel_rfl) (fun _ _ _ h => h) (by rfl) (by assumption) ?_
          try simp only [Act.put, List.setIfInBounds_toArray, List.set_cons_zero, List.set_cons_succ]
          refine hTake (i := 21) (v := ?v21pa) (some 83) rfl rfl (by kernel_rfl) (by kernel_rfl) (by kernel_rfl) (fun _ _ _ h => h) (by rfl) (by assumption) ?hy21pa ?hn21pa
          case hy21pa => (intro w hSw; (try dsimp only at hSw); go_simp; try with_reducible rfl)
          try simp only [Act.put, List.setIfInBounds_toArray, List.set_cons_zero, List.set_cons_succ]
          refine hTake (i := 22) (v := ?v22pa) (some 84) rfl rfl (by kernel_rfl) (by kernel_rfl) (by kernel_rfl) (fun _ _ _ h => h) (by rfl) (by assumption) ?hy22pa ?hn22pa
          case hy22pa => (intro w hSw; (try dsimp only at hSw); go_simp; try with_reducible rfl)
          try simp only [Act.put, List.setIfInBounds_toArray, List.set_cons_zero, List.set_cons_succ]
          refine hTake (i := 23) (v := ?v23pa) (some 85) rfl rfl (by kernel_rfl) (by kernel_rfl) (by kernel_rfl) (fun _ _ _ h => h) (by rfl) (by assumption) ?hy23pa ?hn23pa
          case hy23pa => (intro w hSw; (try dsimp only at hSw); go_simp; try with_reducible rfl)
          try simp only [Act.put, List.setIfInBounds_toArray, List.set_cons_zero, List.set_cons_succ]
          refine wpAnyH_done (by kernel_rfl) ?_ _
          go_wp2
          go_roundw
          case rel => exact ⟨1, by omega, by simp, HK2⟩
          case measure => simp [intOf]; omega
        · obtain ⟨i, hki⟩ : ∃ i, k = i + 1 := ⟨k - 1, by omega⟩
          have hp := HPR.out i hki
          have hne := h5 (by omega)
          rw [show k - 1 = i by omega] at hne
          generalize u.getD i Vr0 = y at *
          obtain ⟨y1, y2, y3, y4⟩ := y
          dsimp only at hp hne
          have hqb : (y1.toList == x1.toList) = false := by simpa using hne
          have HS : Hid ((wr.alloc (.cells #[.string x1, .int .u64 (x2 : Nat), .string x3, .bool false] 51)).drew.cell? ⟨B9, 0, none⟩ = some (.slice (some ⟨b, off, none⟩) un k2) ∧ (wr.alloc (.cells #[.string x1, .int .u64 (x2 : Nat), .string x3, .bool false] 51)).drew.cell? ⟨wr.heap.size, 0, none⟩ = some (.string x1) ∧ (wr.alloc (.cells #[.string x1, .int .u64 (x2 : Nat), .string x3, .bool false] 51)).drew.cell? ⟨wr.heap.size, 1, none⟩ = some (.int .u64 (x2 : Nat)) ∧ (wr.alloc (.cells #[.string x1, .int .u64 (x2 : Nat), .string x3, .bool false] 51)).drew.cell? ⟨wr.heap.size, 2, none⟩ = some (.string x3) ∧ (wr.alloc (.cells #[.string x1, .int .u64 (x2 : Nat), .string x3, .bool false] 51)).drew.cell? ⟨wr.heap.size, 3, none⟩ = some (.bool false) ∧ (wr.alloc (.cells #[.string x1, .int .u64 (x2 : Nat), .string x3, .bool false] 51)).drew.cell? ⟨b, off + i * 4, none⟩ = some (.string y1)) := hide ⟨(HNB.out _ 0).trans g0, cell_blk (HNEW.out false) rfl, cell_blk (HNEW.out false) rfl, cell_blk (HNEW.out false) rfl, cell_blk (HNEW.out false) rfl, (World.cell?_of_block ((HBN _).out.block b hbs)).trans hp⟩
          have HK2 := hide (HKEEP.out (.cells #[.string x1, .int .u64 (x2 : Nat), .string x3, .bool false] 51))
          have hw5 : IntKind.i64.wrap ((k : Int) - 1) = (i : Int) := by rw [wr64' (by omega) (by omega)]; omega
          have hw6 : IntKind.i64.wrap (i : Int) = (i : Int) := wr64' (by omega) (by omega)
          have hi5 : (0 : Int) < (k : Int) := by omega
          have hkD : decide ((0 : Int) < (k : Int)) = true := decide_eq_true hi5
          have hkN : 0 < k := by omega
          have hi6 : (i : Int) < (un : Int) := by omega
          have hi7 : (0 : Int) ≤ (i : Int) := by omega
          clear h5 HXA HNEW HNB HPR g0 g1 hp hne hki hk0
          go_wp2_with fail
          refine wp_region_held_drew (S := (fun W : World => W.cell? ⟨B9, 0, none⟩ = some (.slice (some ⟨b, off, none⟩) un k2) ∧ W.cell? ⟨wr.heap.size, 0, none⟩ = some (.string x1) ∧ W.cell? ⟨wr.heap.size, 1, none⟩ = some (.int .u64 (x2 : Nat)) ∧ W.cell? ⟨wr.heap.size, 2, none⟩ = some (.string x3) ∧ W.cell? ⟨wr.heap.size, 3, none⟩ = some (.bool false) ∧ W.cell? ⟨b, off + i * 4, none⟩ = some (.string y1))) (by kernel_rfl) ?hSpb (fun hHeld => ?_)
          case hSpb => exact HS.out
          refine hTake (i := 0) (v := ?v0pb) (some 62) rfl rfl (by kernel_rfl) (by kernel_rfl) (by kernel_rfl) (fun _ _ _ h => h) (by rfl) (by assumption) ?hy0pb ?hn0pb
          case hy0pb => (intro w hSw; (try dsimp only at hSw); go_simp; try with_reducible rfl)
          try simp only [Act.put, List.setIfInBounds_toArray, List.set_cons_zero, List.set_cons_succ]
          refine hTake (i := 1) (v := ?v1pb) (some 63) rfl rfl (by kernel_rfl) (by kernel_rfl) (by kernel_rfl) (fun _ _ _ h => h) (by rfl) (by assumption) ?hy1pb ?hn1pb
          case hy1pb => (intro w hSw; (try dsimp only at hSw); go_simp; try with_reducible rfl)
          try simp only [Act.put, List.setIfInBounds_toArray, List.set_cons_zero, List.set_cons_succ]
          refine hTake (i := 2) (v := ?v2pb) (some 64) rfl rfl (by kernel_rfl) (by kernel_rfl) (by kernel_rfl) (fun _ _ _ h => h) (by rfl) (by assumption) ?hy2pb ?hn2pb
          case hy2pb => (intro w hSw; (try dsimp only at hSw); go_simp; try with_reducible rfl)
          try simp only [Act.put, List.setIfInBounds_toArray, List.set_cons_zero, List.set_cons_succ]
          refine hTake (i := 3) (v := ?v3pb) (some 65) rfl rfl (by kernel_rfl) (by kernel_rfl) (by kernel_rfl) (fun _ _ _ h => h) (by rfl) (by assumption) ?hy3pb ?hn3pb
          case hy3pb => (intro w hSw; (try dsimp only at hSw); go_simp; try with_reducible rfl)
          try simp only [Act.put, List.setIfInBounds_toArray, List.set_cons_zero, List.set_cons_succ]
          refine hTake (i := 4) (v := ?v4pb) (some 66) rfl rfl (by kernel_rfl) (by kernel_rfl) (by kernel_rfl) (fun _ _ _ h => h) (by rfl) (by assumption) ?hy4pb ?hn4pb
          case hy4pb => (intro w hSw; (try dsimp only at hSw); go_simp; try with_reducible rfl)
          try simp only [Act.put, List.setIfInBounds_toArray, List.set_cons_zero, List.set_cons_succ]
          refine hTake (i := 5) (v := ?v5pb) (some 67) rfl rfl (by kernel_rfl) (by kernel_rfl) (by kernel_rfl) (fun _ _ _ h => h) (by rfl) (by assumption) ?hy5pb ?hn5pb
          case hy5pb => (intro w hSw; (try dsimp only at hSw); go_simp; try with_reducible rfl)
          try simp only [Act.put, List.setIfInBounds_toArray, List.set_cons_zero, List.set_cons_succ]
          refine hTake (i := 6) (v := ?v6pb) (some 68) rfl rfl (by kernel_rfl) (by kernel_rfl) (by kernel_rfl) (fun _ _ _ h => h) (by rfl) (by assumption) ?hy6pb ?hn6pb
          case hy6pb => (intro w hSw; (try dsimp only at hSw); go_simp; try with_reducible rfl)
          try simp only [Act.put, List.setIfInBounds_toArray, List.set_cons_zero, List.set_cons_succ]
          refine hTake (i := 7) (v := ?v7pb) (some 69) rfl rfl (by kernel_rfl) (by kernel_rfl) (by kernel_rfl) (fun _ _ _ h => h) (by rfl) (by assumption) ?hy7pb ?hn7pb
          case hy7pb => (intro w hSw; (try dsimp only at hSw); go_simp; try with_reducible rfl)
          try simp only [Act.put, List.setIfInBounds_toArray, List.set_cons_zero, List.set_cons_succ]
          refine hTake (i := 8) (v := ?v8pb) (some 70) rfl rfl (by kernel_rfl) (by kernel_rfl) (by kernel_rfl) (fun _ _ _ h => h) (by rfl) (by assumption) ?hy8pb ?hn8pb
          case hy8pb => (intro w hSw; (try dsimp only at hSw); go_simp; try with_reducible rfl)
          try simp only [Act.put, List.setIfInBounds_toArray, List.set_cons_zero, List.set_cons_succ]
          refine hTake (i := 9) (v := ?v9pb) (some 71) rfl rfl (by kernel_rfl) (by kernel_rfl) (by kernel_rfl) (fun _ _ _ h => h) (by rfl) (by assumption) ?hy9pb ?hn9pb
          case hy9pb => (intro w hSw; (try dsimp only at hSw); go_simp; try with_reducible rfl)
          try simp only [Act.put, List.setIfInBounds_toArray, List.set_cons_zero, List.set_cons_succ]
          refine hTake (i := 10) (v := ?v10pb) (some 72) rfl rfl (by kernel_rfl) (by kernel_rfl) (by kernel_rfl) (fun _ _ _ h => h) (by rfl) (by assumption) ?hy10pb ?hn10pb
          case hy10pb => (intro w hSw; (try dsimp only at hSw); go_simp; try with_reducible rfl)
          try simp only [Act.put, List.setIfInBounds_toArray, List.set_cons_zero, List.set_cons_succ]
          refine hTake (i := 11) (v := ?v11pb) (some 73) rfl rfl (by kernel_rfl) (by kernel_rfl) (by kernel_rfl) (fun _ _ _ h => h) (by rfl) (by assumption) ?hy11pb ?hn11pb
          case hy11pb => (intro w hSw; (try dsimp only at hSw); go_simp; try with_reducible rfl)
          try simp only [Act.put, List.setIfInBounds_toArray, List.set_cons_zero, List.set_cons_succ]
          refine hTake (i := 12) (v := ?v12pb) (some 74) rfl rfl (by kernel_rfl) (by kernel_rfl) (by kernel_rfl) (fun _ _ _ h => h) (by rfl) (by assumption) ?hy12pb ?hn12pb
          case hy12pb => (intro w hSw; (try dsimp only at hSw); go_simp; try with_reducible rfl)
          try simp only [Act.put, List.setIfInBounds_toArray, List.set_cons_zero, List.set_cons_succ]
          refine hTake (i := 13) (v := ?v13pb) (some 75) rfl rfl (by kernel_rfl) (by kernel_rfl) (by kernel_rfl) (fun _ _ _ h => h) (by rfl) (by assumption) ?hy13pb ?hn13pb
          case hy13pb => (intro w hSw; (try dsimp only at hSw); go_simp; try with_reducible rfl)
          try simp only [Act.put, List.setIfInBounds_toArray, List.set_cons_zero, List.set_cons_succ]
          refine hTake (i := 14) (v := ?v14pb) (some 76) rfl rfl (by kernel_rfl) (by kernel_rfl) (by kernel_rfl) (fun _ _ _ h => h) (by rfl) (by assumption) ?hy14pb ?hn14pb
          case hy14pb => (intro w hSw; (try dsimp only at hSw); go_simp; try with_reducible rfl)
          try simp only [Act.put, List.setIfInBounds_toArray, List.set_cons_zero, List.set_cons_succ]
          refine hTake (i := 15) (v := ?v15pb) (some 77) rfl rfl (by kernel_rfl) (by kernel_rfl) (by kernel_rfl) (fun _ _ _ h => h) (by rfl) (by assumption) ?hy15pb ?hn15pb
          case hy15pb => (intro w hSw; (try dsimp only at hSw); go_simp; try with_reducible rfl)
          try simp only [Act.put, List.setIfInBounds_toArray, List.set_cons_zero, List.set_cons_succ]
          refine hTake (i := 16) (v := ?v16pb) (some 78) rfl rfl (by kernel_rfl) (by kernel_rfl) (by kernel_rfl) (fun _ _ _ h => h) (by rfl) (by assumption) ?hy16pb ?hn16pb
          case hy16pb => (intro w hSw; (try dsimp only at hSw); go_simp; try with_reducible rfl)
          try simp only [Act.put, List.setIfInBounds_toArray, List.set_cons_zero, List.set_cons_succ]
          refine hTake (i := 17) (v := ?v17pb) (some 79) rfl rfl (by kernel_rfl) (by kernel_rfl) (by kernel_rfl) (fun _ _ _ h => h) (by rfl) (by assumption) ?hy17pb ?hn17pb
          case hy17pb => (intro w hSw; (try dsimp only at hSw); go_simp; try with_reducible rfl)
          try simp only [Act.put, List.setIfInBounds_toArray, List.set_cons_zero, List.set_cons_succ]
          refine hTake (i := 18) (v := ?v18pb) (some 80) rfl rfl (by kernel_rfl) (by kernel_rfl) (by kernel_rfl) (fun _ _ _ h => h) (by rfl) (by assumption) ?hy18pb ?hn18pb
          case hy18pb => (intro w hSw; (try dsimp only at hSw); go_simp; try with_reducible rfl)
          try simp only [Act.put, List.setIfInBounds_toArray, List.set_cons_zero, List.set_cons_succ]
          refine hTake (i := 19) (v := ?v19pb) (some 81) rfl rfl (by kernel_rfl) (by kernel_rfl) (by kernel_rfl) (fun _ _ _ h => h) (by rfl) (by assumption) ?hy19pb ?hn19pb
          case hy19pb => (intro w hSw; (try dsimp only at hSw); go_simp; try with_reducible rfl)
          try simp only [Act.put, List.setIfInBounds_toArray, List.set_cons_zero, List.set_cons_succ]
          refine hTake (i := 20) (v := ?v20pb) (some 82) rfl rfl (by kernel_rfl) (by kernel_rfl) (by kernel_rfl) (fun _ _ _ h => h) (by rfl) (by assumption) ?hy20pb ?hn20pb
          case hy20pb => (intro w hSw; (try dsimp only at hSw); go_simp; try with_reducible rfl)
          try simp only [Act.put, List.setIfInBounds_toArray, List.set_cons_zero, List.set_cons_succ]
          refine hTake (i := 21) (v := ?v21pb) (some 83) rfl rfl (by kernel_rfl) (by kernel_rfl) (by kernel_rfl) (fun _ _ _ h => h) (by rfl) (by assumption) ?hy21pb ?hn21pb
          case hy21pb => (intro w hSw; (try dsimp only at hSw); go_simp; try with_reducible rfl)
          try simp only [Act.put, List.setIfInBounds_toArray, List.set_cons_zero, List.set_cons_succ]
          refine hTake (i := 22) (v := ?v22pb) (some 84) rfl rfl (by kernel_rfl) (by kernel_rfl) (by kernel_rfl) (fun _ _ _ h => h) (by rfl) (by assumption) ?hy22pb ?hn22pb
          case hy22pb => (intro w hSw; (try dsimp only at hSw); go_simp; try with_reducible rfl)
          try simp only [Act.put, List.setIfInBounds_toArray, List.set_cons_zero, List.set_cons_succ]
          refine hTake (i := 23) (v := ?v23pb) (some 85) rfl rfl (by kernel_rfl) (by kernel_rfl) (by kernel_rfl) (fun _ _ _ h => h) (by rfl) (by assumption) ?hy23pb ?hn23pb
          case hy23pb => (intro w hSw; (try dsimp only at hSw); go_simp; try with_reducible rfl)
          try simp only [Act.put, List.setIfInBounds_toArray, List.set_cons_zero, List.set_cons_succ]
          refine wpAnyH_done (by kernel_rfl) ?_ _
          go_wp2
          go_roundw
          case rel => exact ⟨k + 1, by omega, by simp, HK2⟩
          case measure => simp [intOf]; omega
      · have hxI : ¬ (x2 : Int) ≤ (t : Int) := by omega
        have hxD : decide ((x2 : Int) ≤ (t : Int)) = false := decide_eq_false hxI
        have HS : Hid ((wr.alloc (.cells #[.string x1, .int .u64 (x2 : Nat), .string x3, .bool x4] 51)).drew.cell? ⟨B9, 0, none⟩ = some (.slice (some ⟨b, off, none⟩) un k2) ∧ (wr.alloc (.cells #[.string x1, .int .u64 (x2 : Nat), .string x3, .bool x4] 51)).drew.cell? ⟨wr.heap.size, 0, none⟩ = some (.string x1) ∧ (wr.alloc (.cells #[.string x1, .int .u64 (x2 : Nat), .string x3, .bool x4] 51)).drew.cell? ⟨wr.heap.size, 1, none⟩ = some (.int .u64 (x2 : Nat)) ∧ (wr.alloc (.cells #[.string x1, .int .u64 (x2 : Nat), .string x3, .bool x4] 51)).drew.cell? ⟨wr.heap.size, 2, none⟩ = some (.string x3) ∧ (wr.alloc (.cells #[.string x1, .int .u64 (x2 : Nat), .string x3, .bool x4] 51)).drew.cell? ⟨wr.heap.size, 3, none⟩ = some (.bool x4)) := hide ⟨(HNB.out _ 0).trans g0, cell_blk (HNEW.out x4) rfl, cell_blk (HNEW.out x4) rfl, cell_blk (HNEW.out x4) rfl, cell_blk (HNEW.out x4) rfl⟩
        have HK2 := hide (HKEEP.out (.cells #[.string x1, .int .u64 (x2 : Nat), .string x3, .bool x4] 51))
        clear HXA HNEW HNB HPR g0 g1
        go_wp2_with fail
        refine wp_region_held_drew (S := (fun W : World => W.cell? ⟨B9, 0, none⟩ = some (.slice (some ⟨b, off, none⟩) un k2) ∧ W.cell? ⟨wr.heap.size, 0, none⟩ = some (.string x1) ∧ W.cell? ⟨wr.heap.size, 1, none⟩ = some (.int .u64 (x2 : Nat)) ∧ W.cell? ⟨wr.heap.size, 2, none⟩ = some (.string x3) ∧ W.cell? ⟨wr.heap.size, 3, none⟩ = some (.bool x4))) (by kernel_rfl) ?hSpc (fun hHeld => ?_)
        case hSpc => exact HS.out
        refine hTake (i := 0) (v := ?v0pc) (some 62) rfl rfl (by kernel_rfl) (by kernel_rfl) (by kernel_rfl) (fun _ _ _ h => h) (by rfl) (by assumption) ?hy0pc ?hn0pc
        case hy0pc => (intro w hSw; (try dsimp only at hSw); go_simp; try with_reducible rfl)
        try simp only [Act.put, List.setIfInBounds_toArray, List.set_cons_zero, List.set_cons_succ]
        refine hTake (i := 1) (v := ?v1pc) (some 63) rfl rfl (by kernel_rfl) (by kernel_rfl) (by kernel_rfl) (fun _ _ _ h => h) (by rfl) (by assumption) ?hy1pc ?hn1pc
        case hy1pc => (intro w hSw; (try dsimp only at hSw); go_simp; try with_reducible rfl)
        try simp only [Act.put, List.setIfInBounds_toArray, List.set_cons_zero, List.set_cons_succ]
        refine hTake (i := 2) (v := ?v2pc) (some 64) rfl rfl (by kernel_rfl) (by kernel_rfl) (by kernel_rfl) (fun _ _ _ h => h) (by rfl) (by assumption) ?hy2pc ?hn2pc
        case hy2pc => (intro w hSw; (try dsimp only at hSw); go_simp; try with_reducible rfl)
        try simp only [Act.put, List.setIfInBounds_toArray, List.set_cons_zero, List.set_cons_succ]
        refine hTake (i := 3) (v := ?v3pc) (some 65) rfl rfl (by kernel_rfl) (by kernel_rfl) (by kernel_rfl) (fun _ _ _ h => h) (by rfl) (by assumption) ?hy3pc ?hn3pc
        case hy3pc => (intro w hSw; (try dsimp only at hSw); go_simp; try with_reducible rfl)
        try simp only [Act.put, List.setIfInBounds_toArray, List.set_cons_zero, List.set_cons_succ]
        refine hTake (i := 4) (v := ?v4pc) (some 66) rfl rfl (by kernel_rfl) (by kernel_rfl) (by kernel_rfl) (fun _ _ _ h => h) (by rfl) (by assumption) ?hy4pc ?hn4pc
        case hy4pc => (intro w hSw; (try dsimp only at hSw); go_simp; try with_reducible rfl)
        try simp only [Act.put, List.setIfInBounds_toArray, List.set_cons_zero, List.set_cons_succ]
        refine hSkip (i := 5) (some 67) rfl rfl (by kernel_rfl) (by kernel_rfl) (by kernel_rfl) (fun _ _ _ h => h) (by rfl) (by assumption) ?_
        try simp only [Act.put, List.setIfInBounds_toArray, List.set_cons_zero, List.set_cons_succ]
        refine hSkip (i := 6) (some 68) rfl rfl (by kernel_rfl) (by kernel_rfl) (by kernel_rfl) (fun _ _ _ h => h) (by rfl) (by assumption) ?_
        try simp only [Act.put, List.setIfInBounds_toArray, List.set_cons_zero, List.set_cons_succ]
        refine hSkip (i := 7) (some 69) rfl rfl (by kernel_rfl) (by kernel_rfl) (by kernel_rfl) (fun _ _ _ h => h) (by rfl) (by assumption) ?_
        try simp only [Act.put, List.setIfInBounds_toArray, List.set_cons_zero, List.set_cons_succ]
        refine hSkip (i := 8) (some 70) rfl rfl (by kernel_rfl) (by kernel_rfl) (by kernel_rfl) (fun _ _ _ h => h) (by rfl) (by assumption) ?_
        try simp only [Act.put, List.setIfInBounds_toArray, List.set_cons_zero, List.set_cons_succ]
        refine hSkip (i := 9) (some 71) rfl rfl (by kernel_rfl) (by kernel_rfl) (by kernel_rfl) (fun _ _ _ h => h) (by rfl) (by assumption) ?_
        try simp only [Act.put, List.setIfInBounds_toArray, List.set_cons_zero, List.set_cons_succ]
        refine hSkip (i := 10) (some 72) rfl rfl (by kernel_rfl) (by kernel_rfl) (by kernel_rfl) (fun _ _ _ h => h) (by rfl) (by assumption) ?_
        try simp only [Act.put, List.setIfInBounds_toArray, List.set_cons_zero, List.set_cons_succ]
        refine hSkip (i := 11) (some 73) rfl rfl (by kernel_rfl) (by kernel_rfl) (by kernel_rfl) (fun _ _ _ h => h) (by rfl) (by assumption) ?_
        try simp only [Act.put, List.setIfInBounds_toArray, List.set_cons_zero, List.set_cons_succ]
        refine hSkip (i := 12) (some 74) rfl rfl (by kernel_rfl) (by kernel_rfl) (by kernel_rfl) (fun _ _ _ h => h) (by rfl) (by assumption) ?_
        try simp only [Act.put, List.setIfInBounds_toArray, List.set_cons_zero, List.set_cons_succ]
        refine hSkip (i := 13) (some 75) rfl rfl (by kernel_rfl) (by kernel_rfl) (by kernel_rfl) (fun _ _ _ h => h) (by rfl) (by assumption) ?_
        try simp only [Act.put, List.setIfInBounds_toArray, List.set_cons_zero, List.set_cons_succ]
        refine hSkip (i := 14) (some 76) rfl rfl (by kernel_rfl) (by kernel_rfl) (by kernel_rfl) (fun _ _ _ h => h) (by rfl) (by assumption) ?_
        try simp only [Act.put, List.setIfInBounds_toArray, List.set_cons_zero, List.set_cons_succ]
        refine hSkip (i := 15) (some 77) rfl rfl (by kernel_rfl) (by kernel_rfl) (by kernel_rfl) (fun _ _ _ h => h) (by rfl) (by assumption) ?_
        try simp only [Act.put, List.setIfInBounds_toArray, List.set_cons_zero, List.set_cons_succ]
        refine hSkip (i := 16) (some 78) rfl rfl (by kernel_rfl) (by kernel_rfl) (by kernel_rfl) (fun _ _ _ h => h) (by rfl) (by assumption) ?_
        try simp only [Act.put, List.setIfInBounds_toArray, List.set_cons_zero, List.set_cons_succ]
        refine hSkip (i := 17) (some 79) rfl rfl (by kernel_rfl) (by kernel_rfl) (by kernel_rfl) (fun _ _ _ h => h) (by rfl) (by assumption) ?_
        try simp only [Act.put, List.setIfInBounds_toArray, List.set_cons_zero, List.set_cons_succ]
        refine hSkip (i := 18) (some 80) rfl rfl (by kernel_rfl) (by kernel_rfl) (by kernel_rfl) (fun _ _ _ h => h) (by rfl) (by assumption) ?_
        try simp only [Act.put, List.setIfInBounds_toArray, List.set_cons_zero, List.set_cons_succ]
        refine hSkip (i := 19) (some 81) rfl rfl (by kernel_rfl) (by kernel_rfl) (by kernel_rfl) (fun _ _ _ h => h) (by rfl) (by assumption) ?_
        try simp only [Act.put, List.setIfInBounds_toArray, List.set_cons_zero, List.set_cons_succ]
        refine hSkip (i := 20) (some 82) rfl rfl (by kernel_rfl) (by kernel_rfl) (by kernel_rfl) (fun _ _ _ h => h) (by rfl) (by assumption) ?_
        try simp only [Act.put, List.setIfInBounds_toArray, List.set_cons_zero, List.set_cons_succ]
        refine hSkip (i := 21) (some 83) rfl rfl (by kernel_rfl) (by kernel_rfl) (by kernel_rfl) (fun _ _ _ h => h) (by rfl) (by assumption) ?_
        try simp only [Act.put, List.setIfInBounds_toArray, List.set_cons_zero, List.set_cons_succ]
        refine hSkip (i := 22) (some 84) rfl rfl (by kernel_rfl) (by kernel_rfl) (by kernel_rfl) (fun _ _ _ h => h) (by rfl) (by assumption) ?_
        try simp only [Act.put, List.setIfInBounds_toArray, List.set_cons_zero, List.set_cons_succ]
        refine hTake (i := 23) (v := ?v23pc) (some 85) rfl rfl (by kernel_rfl) (by kernel_rfl) (by kernel_rfl) (fun _ _ _ h => h) (by rfl) (by assumption) ?hy23pc ?hn23pc
        case hy23pc => (intro w hSw; (try dsimp only at hSw); go_simp; try with_reducible rfl)
        try simp only [Act.put, List.setIfInBounds_toArray, List.set_cons_zero, List.set_cons_succ]
        refine wpAnyH_done (by kernel_rfl) ?_ _
        go_wp2
        go_roundw
        case rel => exact ⟨k + 1, by omega, by simp, HK2⟩
        case measure => simp [intOf]; omega
    · obtain rfl : k = un := by omega
      have hi2 : ¬ (k : Int) < (k : Int) := by omega
      have HB4 := hide (HB3.out.trans (HI.out.mono HB3.out.size))
      have HV4 := hide (HV3.out.below HI.out)
      have HU4 := hide (HU3.out.below HI.out)
      obtain ⟨e0, e1⟩ := cells2_of_blk ((HI.out.block _ (heap_lt HT3.out)).trans HT3.out)
      have HTU4 : Hid (Two wr B9 (.slice a2 k k2) (.int .u64 (t : Nat))) := hide ((HI.out.block _ (heap_lt HTU3.out)).trans HTU3.out)
      obtain ⟨f0, f1⟩ := cells2_of_blk HTU4.out
      clear c0 c1' d0 d1 HB3 HV3 HU3 HT3 HTU3 HI
      by_cases hask : ask < t
      · have hI : (ask : Int) < (t : Int) := by omega
        have HG2 := hide (get_any a2 k k2 t ask key u wr HU4.out)
        rw [HOL.out hask] at HG2
        clear HOL HGE HAT
        go_wp2_with fail
        refine HG2.out.mono ?_
        rintro e w5 ⟨rfl, hb5⟩
        have HB5 := hide (HB4.out.trans (hb5.mono HB4.out.size))
        clear hb5 HG2 HB4 HU4 HV4
        go_wp2
        go_ret
        exact ⟨rfl, HB5.out⟩
      · have hI : ¬ (ask : Int) < (t : Int) := by omega
        obtain ⟨s, b, q1, q2⟩ := HGE.out hask
        have HG1 := hide (get_any a len cap low ask key l wr HV4.out)
        have HG2 := hide (fun W hW => get_any a2 k k2 t ask key u W hW)
        rw [q1] at HG1
        rw [q2] at HG2
        clear HOL HGE HAT q1 q2
        go_wp2_with fail
        refine HG1.out.mono ?_
        rintro e w5 ⟨rfl, hb5⟩
        have HB5 := hide (HB4.out.trans (hb5.mono HB4.out.size))
        have HU5 := hide (HU4.out.below hb5)
        obtain ⟨m0, m1⟩ := cells2_of_blk ((hb5.block _ (heap_lt HTU4.out)).trans HTU4.out)
        clear hb5 HG1 HB4 HU4 HV4 HTU4 e0 e1 f0 f1
        go_wp2_with fail
        refine (HG2.out w5 HU5.out).mono ?_
        rintro e w6 ⟨rfl, hb6⟩
        have HB6 := hide (HB5.out.trans (hb6.mono HB5.out.size))
        clear hb6 HG2 HB5 HU5
        go_wp2
        go_ret
        exact ⟨rfl, HB6.out⟩
end Go.Proofs.Ytpgdmkjfgmiacaa

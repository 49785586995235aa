/- PlanBack, walked -/
import Derived.Test.YtmkholgflhaacaaI
namespace Go.Proofs.Ytmkholgflhaacaa
open Go.RowKit
def lenV : Value → Nat
  | .slice _ n _ => n
  | _ => 0
set_option linter.unusedVariables false
set_option maxRecDepth 40000 in
set_option maxHeartbeats 800000 in
theorem backOne (t : Int) (a2 : Option Addr) (len2 cap2 : Nat) (rs : List Bool) (w : World) (hr : IsL w a2 len2 cap2 rs) (hl2 : len2 ≤ 140737488355328) : Calls Try.prog 6 #[.int .u8 1, .int .i64 t, .slice a2 len2 cap2] w fun e w' => e = .returned (.bool true) ∧ Below w.heap.size w w' := by
  have HLV := hide lives_any
  have HRS := hide hr
  have hcap2 := hr.1
  have hcm2 : cap2 ≤ 9223372036854775807 := hr.2.1
  have hq := @equal33
  have hqg := @eqg33
  have HL2 := hide hl2
  clear hr hl2
  have HK13 : Hid ((1 : Int) = 1 ∨ (1 : Int) = 3) := hide (by decide)
  have HKU : Hid (u8B 1) := hide (by unfold u8B; decide)
  have HN5 := hide (nL_le 1)
  have HFW := hide (fun i (hi : i < nL 1) => fwd HK13.out hi)
  have HFE := hide (fwd_end HK13.out)
  have HBE : Hid (nextR ⟨1, 1, ((0 : Nat) : Int), true⟩ = ⟨0, false, 0⟩) := hide (back_end HK13.out)
  have HBK := hide (fun (j : Nat) (hj : j + 1 ≤ 4) => back hj)
  have HLN : Hid ((stepsL 1).length = nL 1) := hide rfl
  have HUS := hide (steps_u8 1)
  have HS1 : Hid ((1 : Int) = 1 → stepsL 1 = stepsL 1) := hide (fun e => by first | rfl | exact absurd e (by decide))
  generalize nL 1 = N at *
  generalize stepsL 1 = SL at *
  go_enter Try.func6, Try.ntmps6
  go_wp2_with fail
  refine (HLV.out w).mono ?_
  rintro e w1 ⟨rfl, b1⟩
  have HB1 : Hid (Below w.heap.size w (w1.alloc (.cells #[.int .i64 1, .int .u8 1, .int .i64 0, .bool false] 33))) := hide (b1.alloc b1.size _)
  have HG1 : Hid (Blk (w1.alloc (.cells #[.int .i64 1, .int .u8 1, .int .i64 0, .bool false] 33)) w1.heap.size ⟨1, 1, ((0 : Nat) : Int), false⟩) := hide (heap_alloc_new _ _)
  have HGE : Hid (w.heap.size ≤ w1.heap.size) := hide b1.size
  clear b1
  go_wp2
  generalize w1.alloc (.cells #[.int .i64 1, .int .u8 1, .int .i64 0, .bool false] 33) = W1 at *
  generalize w1.heap.size = g at *
  go_loopw [8, 9] (fun dv iv wr => ∃ i : Nat, i ≤ N ∧ i ≤ 5 ∧ iv = .int .i64 i ∧ Hid (Blk wr g ⟨1, 1, i, false⟩ ∧ OwnK wr w.heap.size dv (SL.take i)) ∧ Hid (Below w.heap.size w wr)) (fun _ iv _ => 5 - (intOf iv).toNat)
  case atStart => exact ⟨0, by omega, by omega, rfl, hide ⟨HG1.out, World.ownsRow_nil _ _ _ _⟩, HB1⟩
  case round =>
    obtain ⟨i, hiN, hi5, rfl, HS, HB⟩ := hrel
    have HLT : Hid ((SL.take i).length = i) := hide (by rw [List.length_take, HLN.out]; omega)
    by_cases hc : (i : Int) < t ∧ i < 5
    · obtain ⟨hct, hc5⟩ := hc
      have hc5I : (i : Int) < 5 := by omega
      by_cases hiN' : i < N
      · have hf := HFW.out i hiN'
        have HNX := hide (fun W => next_at hf.1 HKU.out W)
        have HAD := hide (fun W => adv_at hf.2.1 HKU.out W)
        have HTS : Hid (SL.take i ++ [SL.getD i 0] = SL.take (i + 1)) := hide (take_snoc SL i (by rw [HLN.out]; exact hiN'))
        clear hf
        generalize SL.getD i 0 = st at *
        have HG := hide HS.out.1
        have HO := hide HS.out.2
        clear HS
        obtain ⟨c0, c1, c2, c3⟩ := HG.out.cells
        dsimp only at c0 c1 c2 c3
        go_wp2_with fail
        refine (HNX.out wr).mono ?_
        rintro e w3 ⟨rfl, b3⟩
        have HB3 : Hid (Below w.heap.size w w3) := hide (HB.out.trans (b3.out.mono HB.out.size))
        have HG3 := hide (HG.out.below' b3.out)
        have HO3 := hide (HO.out.below b3.out)
        clear b3 c0 c1 c2 c3
        obtain ⟨c0, c1, c2, c3⟩ := HG3.out.cells
        dsimp only at c0 c1 c2 c3
        go_wp2_with fail
        refine (HAD.out w3).mono ?_
        rintro e w4 ⟨rfl, b4⟩
        have X4 : Below w.heap.size w w4 := HB3.out.trans (b4.out.mono HB3.out.size)
        have G4 := HG3.out.below' b4.out
        have O4 := HO3.out.below b4.out
        have HB5 : Hid (Below w.heap.size w ((w4.alloc (.cells #[.int .i64 1, .int .u8 1, .int .i64 ((i : Int) + 1), .bool false] 33)).alloc (.cells #[.int .u8 st] 23))) := hide ((X4.alloc X4.size _).alloc (by have := (X4.alloc X4.size (.cells #[.int .i64 1, .int .u8 1, .int .i64 ((i : Int) + 1), .bool false] 33)).size; omega) _)
        have HG5 : Hid (Blk ((w4.alloc (.cells #[.int .i64 1, .int .u8 1, .int .i64 ((i : Int) + 1), .bool false] 33)).alloc (.cells #[.int .u8 st] 23)) g ⟨1, 1, i, false⟩) := hide ((Below.heap_alloc _ _ _ (by have := heap_lt G4; simp; omega)).trans ((Below.heap_alloc _ _ _ (heap_lt G4)).trans G4))
        have HN5' : Hid (Blk ((w4.alloc (.cells #[.int .i64 1, .int .u8 1, .int .i64 ((i : Int) + 1), .bool false] 33)).alloc (.cells #[.int .u8 st] 23)) w4.heap.size ⟨1, 1, (i : Int) + 1, false⟩) := hide ((Below.heap_alloc _ _ _ (by simp)).trans (heap_alloc_new _ _))
        have HO5 : Hid (OwnK ((w4.alloc (.cells #[.int .i64 1, .int .u8 1, .int .i64 ((i : Int) + 1), .bool false] 33)).alloc (.cells #[.int .u8 st] 23)) w.heap.size u8 (SL.take i)) := hide ((O4.alloc _).alloc _)
        have HQ5 : Hid (((w4.alloc (.cells #[.int .i64 1, .int .u8 1, .int .i64 ((i : Int) + 1), .bool false] 33)).alloc (.cells #[.int .u8 st] 23)).cell? ⟨w4.heap.size + 1, 0, none⟩ = some (.int .u8 st)) := hide (by simp)
        clear X4 G4 O4 b4 HB3 HG3 HO3 c0 c1 c2 c3
        go_wp2_with (at_builtin; refine wpList_stepK rfl _ _ rfl w.heap.size u8 (SL.take i) st (w4.heap.size + 1) rfl HO5.out rfl HQ5.out (by rw [HLT.out]; omega) HB5.out.size ?_)
        intro v6 w6 H6
        have HG6 : Hid (Blk w6 g ⟨1, 1, i, false⟩) := hide (HG5.out.grownK H6.out.2 (own_ne HO5.out HG5.out))
        have HN6 : Hid (Blk w6 w4.heap.size ⟨1, 1, (i : Int) + 1, false⟩) := hide (HN5'.out.grownK H6.out.2 (own_ne HO5.out HN5'.out))
        have HB6 : Hid (Below w.heap.size w w6) := hide (HB5.out.grown H6.out.2 HB5.out.size (fun q hq => (World.ownsRow.lt HO5.out q hq).1))
        have HO6 : Hid (OwnK w6 w.heap.size v6 (SL.take (i + 1))) := hide (by rw [← HTS.out]; exact H6.out.1)
        clear H6 HG5 HN5' HB5 HO5 HQ5 HTS
        generalize w4.heap.size = gn at *
        obtain ⟨c0, c1, c2, c3⟩ := HG6.out.cells
        obtain ⟨d0, d1, d2, d3⟩ := HN6.out.cells
        have f1 := HG6.out.froz
        dsimp only at c0 c1 c2 c3 d0 d1 d2 d3
        have hwi : IntKind.i64.wrap ((i : Int) + 1) = (i : Int) + 1 := wrap64 (by omega) (by omega)
        go_wp2
        go_roundw
        case rel => exact ⟨i + 1, by omega, by omega, by simp, hide ⟨by rw [Int.natCast_add]; exact put4_blk HG6.out ⟨1, 1, (i : Int) + 1, false⟩, HO6.out.put4 HG6.out ⟨1, 1, (i : Int) + 1, false⟩⟩, hide (put4_below HB6.out HGE.out ⟨1, 1, (i : Int) + 1, false⟩)⟩
        case measure => simp [intOf]; omega
      · obtain rfl : i = N := by omega
        have HNX := hide (fun W => next_at HFE.out HKU.out W)
        have HG := hide HS.out.1
        clear HS
        obtain ⟨c0, c1, c2, c3⟩ := HG.out.cells
        dsimp only at c0 c1 c2 c3
        go_wp2_with fail
        refine (HNX.out wr).mono ?_
        rintro e w3 ⟨rfl, b3⟩
        have HB3 : Hid (Below w.heap.size w w3) := hide (HB.out.trans (b3.out.mono HB.out.size))
        have HG3 := hide (HG.out.below' b3.out)
        clear b3 c0 c1 c2 c3
        obtain ⟨c0, c1, c2, c3⟩ := HG3.out.cells
        dsimp only at c0 c1 c2 c3
        go_wp2_with fail
        refine (HNX.out w3).mono ?_
        rintro e w4 ⟨rfl, b4⟩
        go_wp2
        go_ret
        exact ⟨rfl, HB3.out.trans (b4.out.mono HB3.out.size)⟩
    · have hcc : (decide ((i : Int) < t) && decide ((i : Int) < 5)) = false := by
        by_cases h1 : (i : Int) < t
        · have : ¬ (i : Int) < 5 := fun h => hc ⟨h1, by omega⟩
          simp [this]
        · simp [h1]
      have hcs : ¬ (i : Int) < t ∨ ((i : Int) < t ∧ ¬ (i : Int) < 5) := by
        by_cases h1 : (i : Int) < t
        · exact .inr ⟨h1, fun h => hc ⟨h1, by omega⟩⟩
        · exact .inl h1
      clear hcc hc
      have HG := hide HS.out.1
      have HO := hide HS.out.2
      clear HS
      obtain ⟨c0, c1, c2, c3⟩ := HG.out.cells
      dsimp only at c0 c1 c2 c3
      by_cases hiN' : i < N
      · have hf := HFW.out i hiN'
        have HNX := hide (fun W => next_at hf.1 HKU.out W)
        have HFF := hide hf.2.2
        have HTU := hide (tu_any (SL.getD i 0))
        clear hf
        rcases hcs with h1 | ⟨h1, h2⟩
        all_goals
          go_wp2_with fail
          refine (HNX.out wr).mono ?_
          rintro e w3 ⟨rfl, b3⟩
          have HB3 : Hid (Below w.heap.size w w3) := hide (HB.out.trans (b3.out.mono HB.out.size))
          have HG3 := hide (HG.out.below' b3.out)
          have HO3 := hide (HO.out.below b3.out)
          clear b3 c0 c1 c2 c3
          cases htu : tuB (SL.getD i 0)
          · rw [htu] at HTU
            clear htu
            generalize SL.getD i 0 = st at *
            go_wp2_with (first | (go_at_call 17; refine (HTU.out _).mono ?_; rintro e w' ⟨rfl, he'⟩; obtain rfl := he'.symm; clear he'))
            go_ret
            exact ⟨rfl, HB3.out⟩
          · rw [htu] at HTU
            have HAF := hide (HFF.out htu)
            have HAD := hide (fun W => adv_at HAF.out.1 HKU.out W)
            have HI4 := hide HAF.out.2
            clear htu HFF HAF
            generalize SL.getD i 0 = st at *
            obtain ⟨c0, c1, c2, c3⟩ := HG3.out.cells
            dsimp only at c0 c1 c2 c3
            go_wp2_with fail
            refine (HTU.out w3).mono ?_
            rintro e w' ⟨rfl, he'⟩
            obtain rfl := he'.symm
            clear he'
            go_wp2_with fail
            refine (HAD.out w3).mono ?_
            rintro e w4 ⟨rfl, b4⟩
            have HB4 : Hid (Below w.heap.size w w4) := hide (HB3.out.trans (b4.out.mono HB3.out.size))
            have HG4 := hide (HG3.out.below' b4.out)
            have HO4 := hide (HO3.out.below b4.out)
            clear b4 HB3 HG3 HO3 c0 c1 c2 c3 HTU HNX HAD
            obtain ⟨c0, c1, c2, c3⟩ := HG4.out.cells
            have f1 := HG4.out.froz
            dsimp only at c0 c1 c2 c3
            obtain ⟨av, cv, hv, hvx⟩ := HO4.out.form
            clear hvx
            rw [HLT.out] at hv
            subst hv
            go_wp2
            generalize hW5 : (((w4.setCell ⟨g, 0, none⟩ (.int .i64 1)).setCell ⟨g, 1, none⟩ (.int .u8 1)).setCell ⟨g, 2, none⟩ (.int .i64 i)).setCell ⟨g, 3, none⟩ (.bool true) = W5
            have hW5' : W5 = put4 w4 g ⟨1, 1, i, true⟩ := hW5.symm
            have HG5 : Hid (Blk W5 g ⟨1, 1, i, true⟩) := hide (hW5' ▸ put4_blk HG4.out _)
            have HO5 : Hid (OwnK W5 w.heap.size (.slice av i cv) (SL.take i)) := hide (hW5' ▸ HO4.out.put4 HG4.out _)
            have HB5 : Hid (Below w.heap.size w W5) := hide (hW5' ▸ put4_below HB4.out HGE.out _)
            clear hW5 hW5' c0 c1 c2 c3 f1 HG4 HO4 HB4
            go_loopw [8, 18] (fun dv tv wr => ∃ (j tr : Nat) (a : Option Addr) (c : Nat), dv = .slice a j c ∧ tv = .int .i64 tr ∧ j ≤ i ∧ tr + j ≤ len2 + 5 ∧ Hid (Blk wr g ⟨1, 1, j, true⟩ ∧ OwnK wr w.heap.size (.slice a j c) (SL.take j)) ∧ Hid (Below w.heap.size w wr)) (fun dv tv _ => lenV dv + (len2 - (intOf tv).toNat))
            case atStart => exact ⟨i, 0, av, cv, rfl, rfl, by omega, by omega, hide ⟨HG5.out, HO5.out⟩, HB5⟩
            case round =>
              obtain ⟨j, tr, av2, cv2, rfl, rfl, hji, htr, HS2, HB2⟩ := hrel
              have HG2 := hide HS2.out.1
              have HO2 := hide HS2.out.2
              clear HS2
              cases j with
              | zero =>
                have HNX2 := hide (fun W => next_at HBE.out HKU.out W)
                obtain ⟨c0, c1, c2, c3⟩ := HG2.out.cells
                dsimp only at c0 c1 c2 c3
                go_wp2_with fail
                refine (HNX2.out wr).mono ?_
                rintro e w7 ⟨rfl, b7⟩
                go_wp2
                go_ret
                exact ⟨rfl, HB2.out.trans (b7.out.mono HB2.out.size)⟩
              | succ m =>
                have hm4 : m + 1 ≤ 4 := by have := (HI4.out (by omega)).2; omega
                have hb := HBK.out m hm4
                rw [show ((m + 1 : Nat) : Int) = (m : Int) + 1 from by omega] at HG2
                have HNX2 := hide (fun W => next_at hb.1 HKU.out W)
                have HAF2 := hide (fun W => adv_at hb.2.2.1 HKU.out W)
                have HAT2 := hide (fun W => adv_at hb.2.2.2 HKU.out W)
                have HUN := hide (un_any (SL.getD m 0) (HUS.out m))
                rw [hb.2.1] at HUN
                clear hb
                have HSLN : Hid (m + 1 ≤ SL.length) := hide (by rw [HLN.out]; omega)
                obtain ⟨av3, cv3, he3, hcell⟩ := HO2.out.form
                have hl3 : (SL.take (m + 1)).length = m + 1 := by rw [List.length_take]; have := HSLN.out; omega
                rw [hl3] at he3 hcell
                cases he3
                obtain ⟨g3, rfl, hg3, _, hgc, _⟩ := hcell m (by omega)
                rw [show (SL.take (m + 1)).getD m 0 = SL.getD m 0 by rw [List.getD_eq_getElem?_getD, List.getElem?_take, if_pos (by omega), ← List.getD_eq_getElem?_getD]] at hgc
                have HGC := hide hgc
                have HG3 := hide hg3
                have HPOP : Hid (∀ W, OwnK W w.heap.size (.slice (some ⟨g3, 0, none⟩) (m + 1) cv2) (SL.take (m + 1)) → OwnK W w.heap.size (.slice (some ⟨g3, 0, none⟩) m cv2) (SL.take m)) := hide (fun W h => OwnK.pop h HSLN.out)
                have hcv : Hid (m + 1 ≤ cv2) := hide (by
                  rcases HO2.out.2 with ⟨e, _⟩ | ⟨q, cap, cur, e, _, _, hn, _⟩
                  · cases e
                  · simp only [Value.slice.injEq] at e
                    obtain ⟨_, _, rfl⟩ := e
                    rw [hl3] at hn
                    exact hn)
                clear hcell hgc hg3 hl3
                generalize SL.getD m 0 = st2 at *
                have hw1 : IntKind.i64.wrap (m : Int) = (m : Int) := wrap64 (by omega) (by omega)
                have hw2 : IntKind.i64.wrap ((tr : Int) + 1) = (tr : Int) + 1 := by have := HL2.out; exact wrap64 (by omega) (by omega)
                have hmp : (0 : Int) < (m : Int) + 1 := by omega
                have hmc : (m : Int) ≤ (cv2 : Int) := by have := hcv.out; omega
                obtain ⟨c0, c1, c2, c3⟩ := HG2.out.cells
                dsimp only at c0 c1 c2 c3
                go_wp2_with fail
                refine (HNX2.out wr).mono ?_
                rintro e w7 ⟨rfl, b7⟩
                have HB7 : Hid (Below w.heap.size w w7) := hide (HB2.out.trans (b7.out.mono HB2.out.size))
                have HG7 := hide (HG2.out.below' b7.out)
                have HO7 := hide (HO2.out.below b7.out)
                have hgc7 : w7.cell? ⟨g3, m, none⟩ = some (.int .u8 st2) := (World.cell?_of_block (b7.out.block g3 HG3.out)).trans HGC.out
                clear b7 c0 c1 c2 c3
                go_wp2_with fail
                refine (HUN.out w7).mono ?_
                rintro e w8 ⟨rfl, b8⟩
                have HB8 : Hid (Below w.heap.size w w8) := hide (HB7.out.trans (b8.mono HB7.out.size))
                have HG8 := hide (HG7.out.below' b8)
                have HO8 := hide (HO7.out.below b8)
                clear b8 hgc7 HB7 HG7 HO7 HUN HNX2
                obtain ⟨c0, c1, c2, c3⟩ := HG8.out.cells
                dsimp only at c0 c1 c2 c3
                have REF : (tr < len2 ∧ rs.getD tr false = true) ∨ (tr < len2 ∧ rs.getD tr false = false) ∨ ¬ tr < len2 := by
                  by_cases h1 : tr < len2
                  · cases h2 : rs.getD tr false
                    · exact .inr (.inl ⟨h1, rfl⟩)
                    · exact .inl ⟨h1, rfl⟩
                  · exact .inr (.inr h1)
                rcases REF with ⟨h1, h2⟩ | hacc
                · obtain ⟨bq, oq, rfl, _, hrc⟩ := (HRS.out.below HB8.out).2.2 tr h1
                  rw [h2] at hrc
                  have h1I : (tr : Int) < (len2 : Int) := by omega
                  go_wp2_with fail
                  refine (HAF2.out w8).mono ?_
                  rintro e w9 ⟨rfl, b9⟩
                  have X9 : Below w.heap.size w w9 := HB8.out.trans (b9.out.mono HB8.out.size)
                  have G9 := HG8.out.below' b9.out
                  have HB10 : Hid (Below w.heap.size w (w9.alloc (.cells #[.int .i64 1, .int .u8 1, .int .i64 ((m : Int) + 1), .bool true] 33))) := hide (X9.alloc X9.size _)
                  have HG10 : Hid (Blk (w9.alloc (.cells #[.int .i64 1, .int .u8 1, .int .i64 ((m : Int) + 1), .bool true] 33)) g ⟨1, 1, (m : Int) + 1, true⟩) := hide ((Below.heap_alloc _ _ _ (heap_lt G9)).trans G9)
                  have HO10 : Hid (OwnK (w9.alloc (.cells #[.int .i64 1, .int .u8 1, .int .i64 ((m : Int) + 1), .bool true] 33)) w.heap.size (.slice (some ⟨g3, 0, none⟩) (m + 1) cv2) (SL.take (m + 1))) := hide ((HO8.out.below b9.out).alloc _)
                  have HD10 : Hid ((w9.alloc (.cells #[.int .i64 1, .int .u8 1, .int .i64 ((m : Int) + 1), .bool true] 33)).cell? ⟨g, 0, none⟩ = some (.int .i64 1) ∧ (w9.alloc (.cells #[.int .i64 1, .int .u8 1, .int .i64 ((m : Int) + 1), .bool true] 33)).cell? ⟨g, 1, none⟩ = some (.int .u8 1) ∧ (w9.alloc (.cells #[.int .i64 1, .int .u8 1, .int .i64 ((m : Int) + 1), .bool true] 33)).cell? ⟨g, 2, none⟩ = some (.int .i64 ((m : Int) + 1)) ∧ (w9.alloc (.cells #[.int .i64 1, .int .u8 1, .int .i64 ((m : Int) + 1), .bool true] 33)).cell? ⟨g, 3, none⟩ = some (.bool true)) := hide HG10.out.cells
                  have hsg := sameG_self ⟨1, 1, (m : Int) + 1, true⟩
                  clear X9 G9 b9 c0 c1 c2 c3
                  obtain ⟨d0, d1, d2, d3⟩ := HD10.out
                  go_wp2
                  go_roundw
                  case rel => exact ⟨m + 1, tr + 1, some ⟨g3, 0, none⟩, cv2, rfl, by simp, by omega, by omega, hide ⟨by rw [show ((m + 1 : Nat) : Int) = (m : Int) + 1 from by omega]; exact HG10.out, HO10.out⟩, HB10⟩
                  case measure => simp [intOf, lenV]; omega
                · rcases hacc with ⟨h1, h2⟩ | h1
                  case' inl =>
                    obtain ⟨bq, oq, rfl, _, hrc⟩ := (HRS.out.below HB8.out).2.2 tr h1
                    rw [h2] at hrc
                    have h1I : (tr : Int) < (len2 : Int) := by omega
                  case' inr =>
                    have h1I : ¬ (tr : Int) < (len2 : Int) := by omega
                  all_goals
                    go_wp2_with fail
                    refine (HAT2.out w8).mono ?_
                    rintro e w9 ⟨rfl, b9⟩
                    have HB9 : Hid (Below w.heap.size w w9) := hide (HB8.out.trans (b9.out.mono HB8.out.size))
                    have HG9 := hide (HG8.out.below' b9.out)
                    have HO9 := hide (HO8.out.below b9.out)
                    clear b9 c0 c1 c2 c3
                    obtain ⟨c0, c1, c2, c3⟩ := HG9.out.cells
                    have f1 := HG9.out.froz
                    dsimp only at c0 c1 c2 c3
                    go_wp2
                    go_roundw
                    case rel => exact ⟨m, tr + 1, some ⟨g3, 0, none⟩, cv2, by simp, by simp, by omega, by omega, hide ⟨put4_blk HG9.out ⟨1, 1, (m : Int), true⟩, HPOP.out _ (HO9.out.put4 HG9.out ⟨1, 1, (m : Int), true⟩)⟩, hide (put4_below HB9.out HGE.out ⟨1, 1, (m : Int), true⟩)⟩
                    case measure => simp [intOf, lenV]; omega
      · obtain rfl : i = N := by omega
        have HNX := hide (fun W => next_at HFE.out HKU.out W)
        rcases hcs with h1 | ⟨h1, h2⟩
        all_goals
          go_wp2_with fail
          refine (HNX.out wr).mono ?_
          rintro e w3 ⟨rfl, b3⟩
          go_wp2
          go_ret
          exact ⟨rfl, HB.out.trans (b3.out.mono HB.out.size)⟩
set_option maxRecDepth 40000 in
set_option maxHeartbeats 800000 in
theorem backThree (t : Int) (a2 : Option Addr) (len2 cap2 : Nat) (rs : List Bool) (w : World) (hr : IsL w a2 len2 cap2 rs) (hl2 : len2 ≤ 140737488355328) : Calls Try.prog 6 #[.int .u8 3, .int .i64 t, .slice a2 len2 cap2] w fun e w' => e = .returned (.bool true) ∧ Below w.heap.size w w' := by
  have HLV := hide lives_any
  have HRS := hide hr
  have hcap2 := hr.1
  have hcm2 : cap2 ≤ 9223372036854775807 := hr.2.1
  have hq := @equal33
  have hqg := @eqg33
  have HL2 := hide hl2
  clear hr hl2
  have HK13 : Hid ((3 : Int) = 1 ∨ (3 : Int) = 3) := hide (by decide)
  have HKU : Hid (u8B 3) := hide (by unfold u8B; decide)
  have HN5 := hide (nL_le 3)
  have HFW := hide (fun i (hi : i < nL 3) => fwd HK13.out hi)
  have HFE := hide (fwd_end HK13.out)
  have HBE : Hid (nextR ⟨1, 3, ((0 : Nat) : Int), true⟩ = ⟨0, false, 0⟩) := hide (back_end HK13.out)
  have HBK := hide (fun (j : Nat) (hj : j + 1 ≤ 4) => back hj)
  have HLN : Hid ((stepsL 3).length = nL 3) := hide rfl
  have HUS := hide (steps_u8 3)
  have HS1 : Hid ((3 : Int) = 1 → stepsL 3 = stepsL 1) := hide (fun e => by first | rfl | exact absurd e (by decide))
  generalize nL 3 = N at *
  generalize stepsL 3 = SL at *
  go_enter Try.func6, Try.ntmps6
  go_wp2_with fail
  refine (HLV.out w).mono ?_
  rintro e w1 ⟨rfl, b1⟩
  have HB1 : Hid (Below w.heap.size w (w1.alloc (.cells #[.int .i64 1, .int .u8 3, .int .i64 0, .bool false] 33))) := hide (b1.alloc b1.size _)
  have HG1 : Hid (Blk (w1.alloc (.cells #[.int .i64 1, .int .u8 3, .int .i64 0, .bool false] 33)) w1.heap.size ⟨1, 3, ((0 : Nat) : Int), false⟩) := hide (heap_alloc_new _ _)
  have HGE : Hid (w.heap.size ≤ w1.heap.size) := hide b1.size
  clear b1
  go_wp2
  generalize w1.alloc (.cells #[.int .i64 1, .int .u8 3, .int .i64 0, .bool false] 33) = W1 at *
  generalize w1.heap.size = g at *
  go_loopw [8, 9] (fun dv iv wr => ∃ i : Nat, i ≤ N ∧ i ≤ 5 ∧ iv = .int .i64 i ∧ Hid (Blk wr g ⟨1, 3, i, false⟩ ∧ OwnK wr w.heap.size dv (SL.take i)) ∧ Hid (Below w.heap.size w wr)) (fun _ iv _ => 5 - (intOf iv).toNat)
  case atStart => exact ⟨0, by omega, by omega, rfl, hide ⟨HG1.out, World.ownsRow_nil _ _ _ _⟩, HB1⟩
  case round =>
    obtain ⟨i, hiN, hi5, rfl, HS, HB⟩ := hrel
    have HLT : Hid ((SL.take i).length = i) := hide (by rw [List.length_take, HLN.out]; omega)
    by_cases hc : (i : Int) < t ∧ i < 5
    · obtain ⟨hct, hc5⟩ := hc
      have hc5I : (i : Int) < 5 := by omega
      by_cases hiN' : i < N
      · have hf := HFW.out i hiN'
        have HNX := hide (fun W => next_at hf.1 HKU.out W)
        have HAD := hide (fun W => adv_at hf.2.1 HKU.out W)
        have HTS : Hid (SL.take i ++ [SL.getD i 0] = SL.take (i + 1)) := hide (take_snoc SL i (by rw [HLN.out]; exact hiN'))
        clear hf
        generalize SL.getD i 0 = st at *
        have HG := hide HS.out.1
        have HO := hide HS.out.2
        clear HS
        obtain ⟨c0, c1, c2, c3⟩ := HG.out.cells
        dsimp only at c0 c1 c2 c3
        go_wp2_with fail
        refine (HNX.out wr).mono ?_
        rintro e w3 ⟨rfl, b3⟩
        have HB3 : Hid (Below w.heap.size w w3) := hide (HB.out.trans (b3.out.mono HB.out.size))
        have HG3 := hide (HG.out.below' b3.out)
        have HO3 := hide (HO.out.below b3.out)
        clear b3 c0 c1 c2 c3
        obtain ⟨c0, c1, c2, c3⟩ := HG3.out.cells
        dsimp only at c0 c1 c2 c3
        go_wp2_with fail
        refine (HAD.out w3).mono ?_
        rintro e w4 ⟨rfl, b4⟩
        have X4 : Below w.heap.size w w4 := HB3.out.trans (b4.out.mono HB3.out.size)
        have G4 := HG3.out.below' b4.out
        have O4 := HO3.out.below b4.out
        have HB5 : Hid (Below w.heap.size w ((w4.alloc (.cells #[.int .i64 1, .int .u8 3, .int .i64 ((i : Int) + 1), .bool false] 33)).alloc (.cells #[.int .u8 st] 23))) := hide ((X4.alloc X4.size _).alloc (by have := (X4.alloc X4.size (.cells #[.int .i64 1, .int .u8 3, .int .i64 ((i : Int) + 1), .bool false] 33)).size; omega) _)
        have HG5 : Hid (Blk ((w4.alloc (.cells #[.int .i64 1, .int .u8 3, .int .i64 ((i : Int) + 1), .bool false] 33)).alloc (.cells #[.int .u8 st] 23)) g ⟨1, 3, i, false⟩) := hide ((Below.heap_alloc _ _ _ (by have := heap_lt G4; simp; omega)).trans ((Below.heap_alloc _ _ _ (heap_lt G4)).trans G4))
        have HN5' : Hid (Blk ((w4.alloc (.cells #[.int .i64 1, .int .u8 3, .int .i64 ((i : Int) + 1), .bool false] 33)).alloc (.cells #[.int .u8 st] 23)) w4.heap.size ⟨1, 3, (i : Int) + 1, false⟩) := hide ((Below.heap_alloc _ _ _ (by simp)).trans (heap_alloc_new _ _))
        have HO5 : Hid (OwnK ((w4.alloc (.cells #[.int .i64 1, .int .u8 3, .int .i64 ((i : Int) + 1), .bool false] 33)).alloc (.cells #[.int .u8 st] 23)) w.heap.size u8 (SL.take i)) := hide ((O4.alloc _).alloc _)
        have HQ5 : Hid (((w4.alloc (.cells #[.int .i64 1, .int .u8 3, .int .i64 ((i : Int) + 1), .bool false] 33)).alloc (.cells #[.int .u8 st] 23)).cell? ⟨w4.heap.size + 1, 0, none⟩ = some (.int .u8 st)) := hide (by simp)
        clear X4 G4 O4 b4 HB3 HG3 HO3 c0 c1 c2 c3
        go_wp2_with (at_builtin; refine wpList_stepK rfl _ _ rfl w.heap.size u8 (SL.take i) st (w4.heap.size + 1) rfl HO5.out rfl HQ5.out (by rw [HLT.out]; omega) HB5.out.size ?_)
        intro v6 w6 H6
        have HG6 : Hid (Blk w6 g ⟨1, 3, i, false⟩) := hide (HG5.out.grownK H6.out.2 (own_ne HO5.out HG5.out))
        have HN6 : Hid (Blk w6 w4.heap.size ⟨1, 3, (i : Int) + 1, false⟩) := hide (HN5'.out.grownK H6.out.2 (own_ne HO5.out HN5'.out))
        have HB6 : Hid (Below w.heap.size w w6) := hide (HB5.out.grown H6.out.2 HB5.out.size (fun q hq => (World.ownsRow.lt HO5.out q hq).1))
        have HO6 : Hid (OwnK w6 w.heap.size v6 (SL.take (i + 1))) := hide (by rw [← HTS.out]; exact H6.out.1)
        clear H6 HG5 HN5' HB5 HO5 HQ5 HTS
        generalize w4.heap.size = gn at *
        obtain ⟨c0, c1, c2, c3⟩ := HG6.out.cells
        obtain ⟨d0, d1, d2, d3⟩ := HN6.out.cells
        have f1 := HG6.out.froz
        dsimp only at c0 c1 c2 c3 d0 d1 d2 d3
        have hwi : IntKind.i64.wrap ((i : Int) + 1) = (i : Int) + 1 := wrap64 (by omega) (by omega)
        go_wp2
        go_roundw
        case rel => exact ⟨i + 1, by omega, by omega, by simp, hide ⟨by rw [Int.natCast_add]; exact put4_blk HG6.out ⟨1, 3, (i : Int) + 1, false⟩, HO6.out.put4 HG6.out ⟨1, 3, (i : Int) + 1, false⟩⟩, hide (put4_below HB6.out HGE.out ⟨1, 3, (i : Int) + 1, false⟩)⟩
        case measure => simp [intOf]; omega
      · obtain rfl : i = N := by omega
        have HNX := hide (fun W => next_at HFE.out HKU.out W)
        have HG := hide HS.out.1
        clear HS
        obtain ⟨c0, c1, c2, c3⟩ := HG.out.cells
        dsimp only at c0 c1 c2 c3
        go_wp2_with fail
        refine (HNX.out wr).mono ?_
        rintro e w3 ⟨rfl, b3⟩
        have HB3 : Hid (Below w.heap.size w w3) := hide (HB.out.trans (b3.out.mono HB.out.size))
        have HG3 := hide (HG.out.below' b3.out)
        clear b3 c0 c1 c2 c3
        obtain ⟨c0, c1, c2, c3⟩ := HG3.out.cells
        dsimp only at c0 c1 c2 c3
        go_wp2_with fail
        refine (HNX.out w3).mono ?_
        rintro e w4 ⟨rfl, b4⟩
        go_wp2
        go_ret
        exact ⟨rfl, HB3.out.trans (b4.out.mono HB3.out.size)⟩
    · have hcc : (decide ((i : Int) < t) && decide ((i : Int) < 5)) = false := by
        by_cases h1 : (i : Int) < t
        · have : ¬ (i : Int) < 5 := fun h => hc ⟨h1, by omega⟩
          simp [this]
        · simp [h1]
      have hcs : ¬ (i : Int) < t ∨ ((i : Int) < t ∧ ¬ (i : Int) < 5) := by
        by_cases h1 : (i : Int) < t
        · exact .inr ⟨h1, fun h => hc ⟨h1, by omega⟩⟩
        · exact .inl h1
      clear hcc hc
      have HG := hide HS.out.1
      have HO := hide HS.out.2
      clear HS
      obtain ⟨c0, c1, c2, c3⟩ := HG.out.cells
      dsimp only at c0 c1 c2 c3
      by_cases hiN' : i < N
      · have hf := HFW.out i hiN'
        have HNX := hide (fun W => next_at hf.1 HKU.out W)
        have HFF := hide hf.2.2
        have HTU := hide (tu_any (SL.getD i 0))
        clear hf
        rcases hcs with h1 | ⟨h1, h2⟩
        all_goals
          go_wp2_with fail
          refine (HNX.out wr).mono ?_
          rintro e w3 ⟨rfl, b3⟩
          have HB3 : Hid (Below w.heap.size w w3) := hide (HB.out.trans (b3.out.mono HB.out.size))
          have HG3 := hide (HG.out.below' b3.out)
          have HO3 := hide (HO.out.below b3.out)
          clear b3 c0 c1 c2 c3
          cases htu : tuB (SL.getD i 0)
          · rw [htu] at HTU
            clear htu
            generalize SL.getD i 0 = st at *
            go_wp2_with (first | (go_at_call 17; refine (HTU.out _).mono ?_; rintro e w' ⟨rfl, he'⟩; obtain rfl := he'.symm; clear he'))
            go_ret
            exact ⟨rfl, HB3.out⟩
          · rw [htu] at HTU
            have HAF := hide (HFF.out htu)
            have HAD := hide (fun W => adv_at HAF.out.1 HKU.out W)
            have HI4 := hide HAF.out.2
            clear htu HFF HAF
            generalize SL.getD i 0 = st at *
            obtain ⟨c0, c1, c2, c3⟩ := HG3.out.cells
            dsimp only at c0 c1 c2 c3
            go_wp2_with fail
            refine (HTU.out w3).mono ?_
            rintro e w' ⟨rfl, he'⟩
            obtain rfl := he'.symm
            clear he'
            go_wp2_with fail
            refine (HAD.out w3).mono ?_
            rintro e w4 ⟨rfl, b4⟩
            have HB4 : Hid (Below w.heap.size w w4) := hide (HB3.out.trans (b4.out.mono HB3.out.size))
            have HG4 := hide (HG3.out.below' b4.out)
            have HO4 := hide (HO3.out.below b4.out)
            clear b4 HB3 HG3 HO3 c0 c1 c2 c3 HTU HNX HAD
            obtain ⟨c0, c1, c2, c3⟩ := HG4.out.cells
            have f1 := HG4.out.froz
            dsimp only at c0 c1 c2 c3
            obtain ⟨av, cv, hv, hvx⟩ := HO4.out.form
            clear hvx
            rw [HLT.out] at hv
            subst hv
            go_wp2
            generalize hW5 : (((w4.setCell ⟨g, 0, none⟩ (.int .i64 1)).setCell ⟨g, 1, none⟩ (.int .u8 3)).setCell ⟨g, 2, none⟩ (.int .i64 i)).setCell ⟨g, 3, none⟩ (.bool true) = W5
            have hW5' : W5 = put4 w4 g ⟨1, 3, i, true⟩ := hW5.symm
            have HG5 : Hid (Blk W5 g ⟨1, 3, i, true⟩) := hide (hW5' ▸ put4_blk HG4.out _)
            have HO5 : Hid (OwnK W5 w.heap.size (.slice av i cv) (SL.take i)) := hide (hW5' ▸ HO4.out.put4 HG4.out _)
            have HB5 : Hid (Below w.heap.size w W5) := hide (hW5' ▸ put4_below HB4.out HGE.out _)
            clear hW5 hW5' c0 c1 c2 c3 f1 HG4 HO4 HB4
            go_loopw [8, 18] (fun dv tv wr => ∃ (j tr : Nat) (a : Option Addr) (c : Nat), dv = .slice a j c ∧ tv = .int .i64 tr ∧ j ≤ i ∧ tr + j ≤ len2 + 5 ∧ Hid (Blk wr g ⟨1, 3, j, true⟩ ∧ OwnK wr w.heap.size (.slice a j c) (SL.take j)) ∧ Hid (Below w.heap.size w wr)) (fun dv tv _ => lenV dv + (len2 - (intOf tv).toNat))
            case atStart => exact ⟨i, 0, av, cv, rfl, rfl, by omega, by omega, hide ⟨HG5.out, HO5.out⟩, HB5⟩
            case round =>
              obtain ⟨j, tr, av2, cv2, rfl, rfl, hji, htr, HS2, HB2⟩ := hrel
              have HG2 := hide HS2.out.1
              have HO2 := hide HS2.out.2
              clear HS2
              cases j with
              | zero =>
                have HNX2 := hide (fun W => next_at HBE.out HKU.out W)
                obtain ⟨c0, c1, c2, c3⟩ := HG2.out.cells
                dsimp only at c0 c1 c2 c3
                go_wp2_with fail
                refine (HNX2.out wr).mono ?_
                rintro e w7 ⟨rfl, b7⟩
                go_wp2
                go_ret
                exact ⟨rfl, HB2.out.trans (b7.out.mono HB2.out.size)⟩
              | succ m =>
                exact absurd (HI4.out (by omega)).1 (by decide)
      · obtain rfl : i = N := by omega
        have HNX := hide (fun W => next_at HFE.out HKU.out W)
        rcases hcs with h1 | ⟨h1, h2⟩
        all_goals
          go_wp2_with fail
          refine (HNX.out wr).mono ?_
          rintro e w3 ⟨rfl, b3⟩
          go_wp2
          go_ret
          exact ⟨rfl, HB.out.trans (b3.out.mono HB.out.size)⟩
set_option maxRecDepth 40000 in
theorem backWalk (k t : Int) (a2 : Option Addr) (len2 cap2 : Nat) (rs : List Bool) (w : World) (hk : u8B k) (ht : i64B t) (hr : IsL w a2 len2 cap2 rs) (hl2 : len2 ≤ 140737488355328) : Calls Try.prog 6 #[.int .u8 k, .int .i64 t, .slice a2 len2 cap2] w fun e w' => e = .returned (.bool true) ∧ Below w.heap.size w w' := by
  by_cases hk1 : k = 1
  · subst hk1; exact backOne t a2 len2 cap2 rs w hr hl2
  by_cases hk3 : k = 3
  · subst hk3; exact backThree t a2 len2 cap2 rs w hr hl2
  have HLV := hide lives_any
  have hk1b : (k != 1) = true := by simpa using hk1
  have hk3b : (k != 3) = true := by simpa using hk3
  clear hr hk ht hl2
  go_enter Try.func6, Try.ntmps6
  go_wp2_with fail
  refine (HLV.out w).mono ?_
  rintro e w1 ⟨rfl, b1⟩
  go_wp2
  go_ret
  exact ⟨rfl, b1⟩
end Go.Proofs.Ytmkholgflhaacaa

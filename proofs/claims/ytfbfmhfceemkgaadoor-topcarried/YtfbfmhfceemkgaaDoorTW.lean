/- TopCarried, walked -/
import Derived.Test.YtfbfmhfceemkgaaDoorTV
namespace Go.Proofs.YtfbfmhfceemkgaaDoor
open Go.RowKit
set_option linter.unusedVariables false
set_option maxRecDepth 40000 in
set_option maxHeartbeats 3000000 in
theorem carriedWalk (o : Int) (a1 : Option Addr) (len1 cap1 : Nat) (vs : List Int) (w : World) (hTP : Tab w ∧ POW w) (ho : i64B o) (hv : IsB w a1 len1 cap1 vs) (hl : len1 * 0 ≤ 140737488355328) : Calls Tryd.prog 3 #[.int .i64 o, .slice a1 len1 cap1] w fun e w' => e = .returned (.bool true) ∧ Below w.heap.size w w' := by
  have HBG := hide (begins_any w hTP.2)
  have HTB := hide hTP.1
  have HVS := hide hv
  have hcap1 := hv.2.1
  have hcm1 : cap1 ≤ 9223372036854775807 := hv.2.2.1
  clear hTP hv hl ho
  by_cases ho : 1 ≤ o ∧ o ≤ 1024
  case neg =>
    have hn : o < 1 ∨ 1024 < o := by omega
    clear ho
    by_cases h1 : o < 1
    · clear hn
      go_enter Tryd.func3, Tryd.ntmps3
      go_wp2_with fail
      refine HBG.out.mono ?_
      rintro e w1 ⟨rfl, b1⟩
      go_wp2
      go_ret
      exact ⟨rfl, b1⟩
    · have h2 : 1024 < o := by omega
      clear hn
      go_enter Tryd.func3, Tryd.ntmps3
      go_wp2_with fail
      refine HBG.out.mono ?_
      rintro e w1 ⟨rfl, b1⟩
      go_wp2
      go_ret
      exact ⟨rfl, b1⟩
  case pos =>
    have HO := hide ho
    have h1 : ¬ o < 1 := by omega
    have h2 : ¬ 1024 < o := by omega
    have hd1 : decide (o < 1) = false := decide_eq_false h1
    have hd2 : decide (1024 < o) = false := decide_eq_false h2
    clear ho
    go_enter Tryd.func3, Tryd.ntmps3
    go_wp2_with fail
    refine HBG.out.mono ?_
    rintro e w1 ⟨rfl, b1⟩
    have HB1 : Hid (Below w.heap.size w (w1.alloc (.cells #[.int .i64 o, .int .u8 1, .int .i64 0, .bool false] 27))) := hide (b1.alloc b1.size _)
    have HG1 : Hid (Pl.Blk (w1.alloc (.cells #[.int .i64 o, .int .u8 1, .int .i64 0, .bool false] 27)) w1.heap.size ⟨o, 1, 0, false⟩) := hide (heap_alloc_new _ _)
    have HGE : Hid (w.heap.size ≤ w1.heap.size) := hide b1.size
    have HG0P : Hid (0 < w1.heap.size) := hide (Nat.lt_of_lt_of_le HTB.out.1 b1.size)
    have HT1 : Hid (Tab (w1.alloc (.cells #[.int .i64 o, .int .u8 1, .int .i64 0, .bool false] 27))) := hide ((HTB.out.below' b1).below' ((Below.refl _ _).alloc (Nat.le_refl _) _))
    clear b1 HBG
    go_wp2
    generalize w1.alloc (.cells #[.int .i64 o, .int .u8 1, .int .i64 0, .bool false] 27) = W1 at *
    generalize w1.heap.size = g at *
    clear h1 h2 hd1 hd2
    go_loopw [5, 7] (fun lv iv wr => ∃ (i : Nat) (s : Pl.Sg) (st : Int) (p : Nat) (a : Option Addr) (c : Nat), i + p ≤ 30 ∧ iv = .int .i64 i ∧ lv = .slice a (lst o st).length c ∧ Hid (Pl.Blk wr g s ∧ Cfg o s st p) ∧ Hid (IsH wr a (lst o st).length c (lst o st) ∧ NewA (g + 1) a) ∧ Hid (Below w.heap.size w wr ∧ Tab wr)) (fun _ iv _ => 60 - (intOf iv).toNat)
    case atStart => exact ⟨0, ⟨o, 1, 0, false⟩, 0, 10, none, 0, by omega, rfl, rfl, hide ⟨HG1.out, rfl, by simp [cfgs]⟩, hide ⟨isH_nil _, newA_none _⟩, hide ⟨HB1.out, HT1.out⟩⟩
    case round =>
      obtain ⟨i, s, st, p, a, c, hip, rfl, rfl, HS, HL, HW⟩ := hrel
      obtain ⟨hst, hp10, hp1, hku, hcase⟩ := cfg_cases HO.out HS.out.2
      have HG2 := hide HS.out.1
      have HOD := hide HS.out.2.1
      have HI2 := hide HL.out.1
      have HNA := hide HL.out.2
      have HB2 := hide HW.out.1
      have HT2 := hide HW.out.2
      have HKU := hide hku
      have HSTB := hide hst
      clear HS HL HW hku hst
      have hi30 : i ≤ 29 := by omega
      have hi60 : (i : Int) < 60 := by omega
      rcases hcase with ⟨x, hn, hxu, hgo⟩ | ⟨hn, hend⟩
      · have HNX := hide (fun W (t : Tab W) => pnext_at hn HKU.out W t)
        have HGO := hide hgo
        have HMV := hide (mvOf_any x)
        have HPA := hide (Pl.as_any x)
        clear hn hgo hxu
        obtain ⟨s1, s2, s3, s4⟩ := s
        obtain ⟨c0, c1, c2, c3⟩ := HG2.out.cells
        dsimp only at *
        by_cases hl1 : i < len1
        · obtain ⟨bv, ov, rfl, hbv, hvc⟩ := (HVS.out.below HB2.out).2.2.2 i hl1
          have HBV := hide hbv
          clear hbv
          have hl1i : (i : Int) < (len1 : Int) := by omega
          by_cases h20 : i < 20
          · have h20i : (i : Int) < 20 := by omega
            by_cases hr : vs.getD i 0 = 1
            · rw [hr] at hvc
              have HVC := hide hvc
              clear hvc
              cases hasp : Pl.asB x
              · rw [hasp] at HPA
                go_wp2_with fail
                refine (HNX.out wr HT2.out).mono ?_
                rintro e w3 ⟨rfl, b3⟩
                have HB3 : Hid (Below w.heap.size w w3) := hide (HB2.out.trans (b3.out.1.mono HB2.out.size))
                have HG3 := hide (HG2.out.below' b3.out.1)
                have HI3 := hide (HI2.out.below' b3.out.1)
                have HT3 := hide b3.out.2
                have HK3 := hide b3.out.1
                clear b3 c0 c1 c2 c3
                obtain ⟨c0, c1, c2, c3⟩ := HG3.out.cells
                dsimp only at c0 c1 c2 c3
                have hvc := (World.cell?_of_block (w' := w3) (w := wr) (a := ⟨bv, ov + i, none⟩) (HK3.out.block bv HBV.out)).trans HVC.out
                obtain ⟨s', st', p', hadv, hcfg', hp', hp10, hst', hmv⟩ := HGO.out true (fun h => absurd h (by decide))
                have hpp : i + 1 + p' ≤ 30 := by have := hp' rfl; omega
                have HAD := hide (fun W (t : Tab W) => padv_at hadv HKU.out W t)
                clear hadv hp' hp10
                rcases hmv with ⟨hm0, hsteq⟩ | ⟨hm0, hmu, l', no, hmove, hd1, hd0, hbool⟩
                · rw [hm0] at HMV
                  clear hm0
                  subst hsteq
                  go_wp2_with fail
                  refine (HPA.out w3).mono ?_
                  rintro e w' ⟨rfl, he'⟩
                  obtain rfl := he'.symm
                  clear he'
                  go_wp2_with fail
                  refine (HMV.out w3).mono ?_
                  rintro e w' ⟨rfl, he'⟩
                  obtain rfl := he'.symm
                  clear he'
                  have HBX := HB3
                  have HGX := HG3
                  have HIX := HI3
                  go_wp2_with fail
                  refine (HAD.out w3 HT3.out).mono ?_
                  rintro e w6 ⟨rfl, b6⟩
                  have HB6 : Hid (Below w.heap.size w w6) := hide (HBX.out.trans (b6.out.1.mono HBX.out.size))
                  have HG6 := hide (HGX.out.below' b6.out.1)
                  have HI6 := hide (HIX.out.below' b6.out.1)
                  have HT6 := hide b6.out.2
                  clear b6 c0 c1 c2 c3
                  obtain ⟨c0, c1, c2, c3⟩ := HG6.out.cells
                  have f1 := HG6.out.froz
                  obtain ⟨q1, q2, q3, q4⟩ := s'
                  dsimp only at c0 c1 c2 c3
                  have hwi : IntKind.i64.wrap ((i : Int) + 1) = (i : Int) + 1 := by simp [IntKind.wrap_i64]; omega
                  go_wp2
                  go_roundw
                  case rel => exact ⟨i + 1, ⟨q1, q2, q3, q4⟩, st', p', a, c, by omega, by simp, rfl, hide ⟨Pl.put4_blk HG6.out ⟨q1, q2, q3, q4⟩, hcfg'⟩, hide ⟨HI6.out.put4 HNA.out ⟨q1, q2, q3, q4⟩, HNA.out⟩, hide ⟨Pl.put4_below HB6.out HGE.out ⟨q1, q2, q3, q4⟩, HT6.out.put4 HG0P.out ⟨q1, q2, q3, q4⟩⟩⟩
                  case measure => simp [intOf]; omega
                · have HMO := hide (fun W (t : Tab W) (h : IsH W a (lst o st).length c (lst o st)) => move_new hmove rfl a _ c W t h hmu)
                  have HAS := hide (as_any (mvOf x))
                  generalize mvOf x = m at *
                  have hmb : (m != 0) = true := by simpa using hm0
                  clear hm0 hmu hmove
                  obtain ⟨rfl, rfl⟩ := hd1 rfl
                  simp only [if_true] at HMO
                  clear hd0 hbool hd1
                  go_wp2_with fail
                  refine (HPA.out w3).mono ?_
                  rintro e w' ⟨rfl, he'⟩
                  obtain rfl := he'.symm
                  clear he'
                  go_wp2_with fail
                  refine (HMV.out w3).mono ?_
                  rintro e w' ⟨rfl, he'⟩
                  obtain rfl := he'.symm
                  clear he'
                  go_wp2_with fail
                  refine (HMO.out w3 HT3.out HI3.out).mono ?_
                  rintro e w5 ⟨a5, c5, rfl, H5, b5⟩
                  have HBX : Hid (Below w.heap.size w w5) := hide (HB3.out.trans (b5.out.1.mono HB3.out.size))
                  have HGX := hide (HG3.out.below' b5.out.1)
                  have HTX := hide b5.out.2
                  have HIX : Hid (IsH w5 a5 (lst o st').length c5 (lst o st')) := hide H5.out.1
                  have HN5 : Hid (NewA (g + 1) a5) := hide (H5.out.2.mono (Pl.heap_lt HG3.out))
                  clear H5 b5 c0 c1 c2 c3
                  obtain ⟨c0, c1, c2, c3⟩ := HGX.out.cells
                  dsimp only at c0 c1 c2 c3
                  go_wp2_with fail
                  refine (HAD.out w5 HTX.out).mono ?_
                  rintro e w6 ⟨rfl, b6⟩
                  have HB6 : Hid (Below w.heap.size w w6) := hide (HBX.out.trans (b6.out.1.mono HBX.out.size))
                  have HG6 := hide (HGX.out.below' b6.out.1)
                  have HI6 := hide (HIX.out.below' b6.out.1)
                  have HT6 := hide b6.out.2
                  clear b6 c0 c1 c2 c3
                  obtain ⟨c0, c1, c2, c3⟩ := HG6.out.cells
                  have f1 := HG6.out.froz
                  obtain ⟨q1, q2, q3, q4⟩ := s'
                  dsimp only at c0 c1 c2 c3
                  have hwi : IntKind.i64.wrap ((i : Int) + 1) = (i : Int) + 1 := by simp [IntKind.wrap_i64]; omega
                  go_wp2
                  go_roundw
                  case rel => exact ⟨i + 1, ⟨q1, q2, q3, q4⟩, st', p', a5, c5, by omega, by simp, rfl, hide ⟨Pl.put4_blk HG6.out ⟨q1, q2, q3, q4⟩, hcfg'⟩, hide ⟨HI6.out.put4 HN5.out ⟨q1, q2, q3, q4⟩, HN5.out⟩, hide ⟨Pl.put4_below HB6.out HGE.out ⟨q1, q2, q3, q4⟩, HT6.out.put4 HG0P.out ⟨q1, q2, q3, q4⟩⟩⟩
                  case measure => simp [intOf]; omega
              · rw [hasp] at HPA
                go_wp2_with fail
                refine (HNX.out wr HT2.out).mono ?_
                rintro e w3 ⟨rfl, b3⟩
                have HB3 : Hid (Below w.heap.size w w3) := hide (HB2.out.trans (b3.out.1.mono HB2.out.size))
                have HG3 := hide (HG2.out.below' b3.out.1)
                have HI3 := hide (HI2.out.below' b3.out.1)
                have HT3 := hide b3.out.2
                have HK3 := hide b3.out.1
                clear b3 c0 c1 c2 c3
                obtain ⟨c0, c1, c2, c3⟩ := HG3.out.cells
                dsimp only at c0 c1 c2 c3
                have hvc := (World.cell?_of_block (w' := w3) (w := wr) (a := ⟨bv, ov + i, none⟩) (HK3.out.block bv HBV.out)).trans HVC.out
                obtain ⟨s', st', p', hadv, hcfg', hp', hp10, hst', hmv⟩ := HGO.out false (fun _ => hasp)
                have hpp : i + 1 + p' ≤ 30 := by omega
                have HAD := hide (fun W (t : Tab W) => padv_at hadv HKU.out W t)
                clear hadv hp' hp10
                rcases hmv with ⟨hm0, hsteq⟩ | ⟨hm0, hmu, l', no, hmove, hd1, hd0, hbool⟩
                · rw [hm0] at HMV
                  clear hm0
                  subst hsteq
                  go_wp2_with fail
                  refine (HPA.out w3).mono ?_
                  rintro e w' ⟨rfl, he'⟩
                  obtain rfl := he'.symm
                  clear he'
                  go_wp2_with fail
                  refine (HMV.out w3).mono ?_
                  rintro e w' ⟨rfl, he'⟩
                  obtain rfl := he'.symm
                  clear he'
                  have HBX := HB3
                  have HGX := HG3
                  have HIX := HI3
                  go_wp2_with fail
                  refine (HAD.out w3 HT3.out).mono ?_
                  rintro e w6 ⟨rfl, b6⟩
                  have HB6 : Hid (Below w.heap.size w w6) := hide (HBX.out.trans (b6.out.1.mono HBX.out.size))
                  have HG6 := hide (HGX.out.below' b6.out.1)
                  have HI6 := hide (HIX.out.below' b6.out.1)
                  have HT6 := hide b6.out.2
                  clear b6 c0 c1 c2 c3
                  obtain ⟨c0, c1, c2, c3⟩ := HG6.out.cells
                  have f1 := HG6.out.froz
                  obtain ⟨q1, q2, q3, q4⟩ := s'
                  dsimp only at c0 c1 c2 c3
                  have hwi : IntKind.i64.wrap ((i : Int) + 1) = (i : Int) + 1 := by simp [IntKind.wrap_i64]; omega
                  go_wp2
                  go_roundw
                  case rel => exact ⟨i + 1, ⟨q1, q2, q3, q4⟩, st', p', a, c, by omega, by simp, rfl, hide ⟨Pl.put4_blk HG6.out ⟨q1, q2, q3, q4⟩, hcfg'⟩, hide ⟨HI6.out.put4 HNA.out ⟨q1, q2, q3, q4⟩, HNA.out⟩, hide ⟨Pl.put4_below HB6.out HGE.out ⟨q1, q2, q3, q4⟩, HT6.out.put4 HG0P.out ⟨q1, q2, q3, q4⟩⟩⟩
                  case measure => simp [intOf]; omega
                · have HMO := hide (fun W (t : Tab W) (h : IsH W a (lst o st).length c (lst o st)) => move_new hmove rfl a _ c W t h hmu)
                  have HAS := hide (as_any (mvOf x))
                  generalize mvOf x = m at *
                  have hmb : (m != 0) = true := by simpa using hm0
                  clear hm0 hmu hmove
                  have hsteq := hd0 rfl
                  subst hsteq
                  simp only [Bool.false_eq_true, if_false] at HMO
                  clear hd0 hd1
                  go_wp2_with fail
                  refine (HPA.out w3).mono ?_
                  rintro e w' ⟨rfl, he'⟩
                  obtain rfl := he'.symm
                  clear he'
                  go_wp2_with fail
                  refine (HMV.out w3).mono ?_
                  rintro e w' ⟨rfl, he'⟩
                  obtain rfl := he'.symm
                  clear he'
                  go_wp2_with fail
                  refine (HMO.out w3 HT3.out HI3.out).mono ?_
                  rintro e w5 ⟨a5, c5, rfl, H5, b5⟩
                  have HBX : Hid (Below w.heap.size w w5) := hide (HB3.out.trans (b5.out.1.mono HB3.out.size))
                  have HGX := hide (HG3.out.below' b5.out.1)
                  have HTX := hide b5.out.2
                  have HIX := hide (HI3.out.below' b5.out.1)
                  clear H5 b5 c0 c1 c2 c3
                  obtain ⟨c0, c1, c2, c3⟩ := HGX.out.cells
                  dsimp only at c0 c1 c2 c3
                  by_cases hno : no = 0
                  · subst hno
                    have hasm : asB m = false := by
                      cases h : asB m
                      · rfl
                      · rw [h] at hbool; exact absurd hbool (by decide)
                    rw [hasm] at HAS
                    clear hasm hbool
                    go_wp2_with fail
                    refine (HAS.out w5).mono ?_
                    rintro e w' ⟨rfl, he'⟩
                    obtain rfl := he'.symm
                    clear he'
                    go_wp2_with fail
                    refine (HAD.out w5 HTX.out).mono ?_
                    rintro e w6 ⟨rfl, b6⟩
                    have HB6 : Hid (Below w.heap.size w w6) := hide (HBX.out.trans (b6.out.1.mono HBX.out.size))
                    have HG6 := hide (HGX.out.below' b6.out.1)
                    have HI6 := hide (HIX.out.below' b6.out.1)
                    have HT6 := hide b6.out.2
                    clear b6 c0 c1 c2 c3
                    obtain ⟨c0, c1, c2, c3⟩ := HG6.out.cells
                    have f1 := HG6.out.froz
                    obtain ⟨q1, q2, q3, q4⟩ := s'
                    dsimp only at c0 c1 c2 c3
                    have hwi : IntKind.i64.wrap ((i : Int) + 1) = (i : Int) + 1 := by simp [IntKind.wrap_i64]; omega
                    go_wp2
                    go_roundw
                    case rel => exact ⟨i + 1, ⟨q1, q2, q3, q4⟩, st', p', a, c, by omega, by simp, rfl, hide ⟨Pl.put4_blk HG6.out ⟨q1, q2, q3, q4⟩, hcfg'⟩, hide ⟨HI6.out.put4 HNA.out ⟨q1, q2, q3, q4⟩, HNA.out⟩, hide ⟨Pl.put4_below HB6.out HGE.out ⟨q1, q2, q3, q4⟩, HT6.out.put4 HG0P.out ⟨q1, q2, q3, q4⟩⟩⟩
                    case measure => simp [intOf]; omega
                  · have hnob : (no == 0) = false := by simpa using hno
                    clear hbool
                    go_wp2_with fail
                    refine (HAD.out w5 HTX.out).mono ?_
                    rintro e w6 ⟨rfl, b6⟩
                    have HB6 : Hid (Below w.heap.size w w6) := hide (HBX.out.trans (b6.out.1.mono HBX.out.size))
                    have HG6 := hide (HGX.out.below' b6.out.1)
                    have HI6 := hide (HIX.out.below' b6.out.1)
                    have HT6 := hide b6.out.2
                    clear b6 c0 c1 c2 c3
                    obtain ⟨c0, c1, c2, c3⟩ := HG6.out.cells
                    have f1 := HG6.out.froz
                    obtain ⟨q1, q2, q3, q4⟩ := s'
                    dsimp only at c0 c1 c2 c3
                    have hwi : IntKind.i64.wrap ((i : Int) + 1) = (i : Int) + 1 := by simp [IntKind.wrap_i64]; omega
                    go_wp2
                    go_roundw
                    case rel => exact ⟨i + 1, ⟨q1, q2, q3, q4⟩, st', p', a, c, by omega, by simp, rfl, hide ⟨Pl.put4_blk HG6.out ⟨q1, q2, q3, q4⟩, hcfg'⟩, hide ⟨HI6.out.put4 HNA.out ⟨q1, q2, q3, q4⟩, HNA.out⟩, hide ⟨Pl.put4_below HB6.out HGE.out ⟨q1, q2, q3, q4⟩, HT6.out.put4 HG0P.out ⟨q1, q2, q3, q4⟩⟩⟩
                    case measure => simp [intOf]; omega
            · have hrb : (vs.getD i 0 == 1) = false := by simpa using hr
              generalize vs.getD i 0 = vv at *
              have HVC := hide hvc
              clear hvc
              go_wp2_with fail
              refine (HNX.out wr HT2.out).mono ?_
              rintro e w3 ⟨rfl, b3⟩
              have HB3 : Hid (Below w.heap.size w w3) := hide (HB2.out.trans (b3.out.1.mono HB2.out.size))
              have HG3 := hide (HG2.out.below' b3.out.1)
              have HI3 := hide (HI2.out.below' b3.out.1)
              have HT3 := hide b3.out.2
              have HK3 := hide b3.out.1
              clear b3 c0 c1 c2 c3
              obtain ⟨c0, c1, c2, c3⟩ := HG3.out.cells
              dsimp only at c0 c1 c2 c3
              have hvc := (World.cell?_of_block (w' := w3) (w := wr) (a := ⟨bv, ov + i, none⟩) (HK3.out.block bv HBV.out)).trans HVC.out
              obtain ⟨s', st', p', hadv, hcfg', hp', hp10, hst', hmv⟩ := HGO.out true (fun h => absurd h (by decide))
              have hpp : i + 1 + p' ≤ 30 := by have := hp' rfl; omega
              have HAD := hide (fun W (t : Tab W) => padv_at hadv HKU.out W t)
              clear hadv hp' hp10
              rcases hmv with ⟨hm0, hsteq⟩ | ⟨hm0, hmu, l', no, hmove, hd1, hd0, hbool⟩
              · rw [hm0] at HMV
                clear hm0
                subst hsteq
                go_wp2_with fail
                refine (HMV.out w3).mono ?_
                rintro e w' ⟨rfl, he'⟩
                obtain rfl := he'.symm
                clear he'
                have HBX := HB3
                have HGX := HG3
                have HIX := HI3
                go_wp2_with fail
                refine (HAD.out w3 HT3.out).mono ?_
                rintro e w6 ⟨rfl, b6⟩
                have HB6 : Hid (Below w.heap.size w w6) := hide (HBX.out.trans (b6.out.1.mono HBX.out.size))
                have HG6 := hide (HGX.out.below' b6.out.1)
                have HI6 := hide (HIX.out.below' b6.out.1)
                have HT6 := hide b6.out.2
                clear b6 c0 c1 c2 c3
                obtain ⟨c0, c1, c2, c3⟩ := HG6.out.cells
                have f1 := HG6.out.froz
                obtain ⟨q1, q2, q3, q4⟩ := s'
                dsimp only at c0 c1 c2 c3
                have hwi : IntKind.i64.wrap ((i : Int) + 1) = (i : Int) + 1 := by simp [IntKind.wrap_i64]; omega
                go_wp2
                go_roundw
                case rel => exact ⟨i + 1, ⟨q1, q2, q3, q4⟩, st', p', a, c, by omega, by simp, rfl, hide ⟨Pl.put4_blk HG6.out ⟨q1, q2, q3, q4⟩, hcfg'⟩, hide ⟨HI6.out.put4 HNA.out ⟨q1, q2, q3, q4⟩, HNA.out⟩, hide ⟨Pl.put4_below HB6.out HGE.out ⟨q1, q2, q3, q4⟩, HT6.out.put4 HG0P.out ⟨q1, q2, q3, q4⟩⟩⟩
                case measure => simp [intOf]; omega
              · have HMO := hide (fun W (t : Tab W) (h : IsH W a (lst o st).length c (lst o st)) => move_new hmove rfl a _ c W t h hmu)
                have HAS := hide (as_any (mvOf x))
                generalize mvOf x = m at *
                have hmb : (m != 0) = true := by simpa using hm0
                clear hm0 hmu hmove
                obtain ⟨rfl, rfl⟩ := hd1 rfl
                simp only [if_true] at HMO
                clear hd0 hbool hd1
                go_wp2_with fail
                refine (HMV.out w3).mono ?_
                rintro e w' ⟨rfl, he'⟩
                obtain rfl := he'.symm
                clear he'
                go_wp2_with fail
                refine (HMO.out w3 HT3.out HI3.out).mono ?_
                rintro e w5 ⟨a5, c5, rfl, H5, b5⟩
                have HBX : Hid (Below w.heap.size w w5) := hide (HB3.out.trans (b5.out.1.mono HB3.out.size))
                have HGX := hide (HG3.out.below' b5.out.1)
                have HTX := hide b5.out.2
                have HIX : Hid (IsH w5 a5 (lst o st').length c5 (lst o st')) := hide H5.out.1
                have HN5 : Hid (NewA (g + 1) a5) := hide (H5.out.2.mono (Pl.heap_lt HG3.out))
                clear H5 b5 c0 c1 c2 c3
                obtain ⟨c0, c1, c2, c3⟩ := HGX.out.cells
                dsimp only at c0 c1 c2 c3
                go_wp2_with fail
                refine (HAD.out w5 HTX.out).mono ?_
                rintro e w6 ⟨rfl, b6⟩
                have HB6 : Hid (Below w.heap.size w w6) := hide (HBX.out.trans (b6.out.1.mono HBX.out.size))
                have HG6 := hide (HGX.out.below' b6.out.1)
                have HI6 := hide (HIX.out.below' b6.out.1)
                have HT6 := hide b6.out.2
                clear b6 c0 c1 c2 c3
                obtain ⟨c0, c1, c2, c3⟩ := HG6.out.cells
                have f1 := HG6.out.froz
                obtain ⟨q1, q2, q3, q4⟩ := s'
                dsimp only at c0 c1 c2 c3
                have hwi : IntKind.i64.wrap ((i : Int) + 1) = (i : Int) + 1 := by simp [IntKind.wrap_i64]; omega
                go_wp2
                go_roundw
                case rel => exact ⟨i + 1, ⟨q1, q2, q3, q4⟩, st', p', a5, c5, by omega, by simp, rfl, hide ⟨Pl.put4_blk HG6.out ⟨q1, q2, q3, q4⟩, hcfg'⟩, hide ⟨HI6.out.put4 HN5.out ⟨q1, q2, q3, q4⟩, HN5.out⟩, hide ⟨Pl.put4_below HB6.out HGE.out ⟨q1, q2, q3, q4⟩, HT6.out.put4 HG0P.out ⟨q1, q2, q3, q4⟩⟩⟩
                case measure => simp [intOf]; omega
          · have h20i : ¬ (i : Int) < 20 := by omega
            clear hvc
            go_wp2_with fail
            refine (HNX.out wr HT2.out).mono ?_
            rintro e w3 ⟨rfl, b3⟩
            have HB3 : Hid (Below w.heap.size w w3) := hide (HB2.out.trans (b3.out.1.mono HB2.out.size))
            have HG3 := hide (HG2.out.below' b3.out.1)
            have HI3 := hide (HI2.out.below' b3.out.1)
            have HT3 := hide b3.out.2
            clear b3 c0 c1 c2 c3
            obtain ⟨c0, c1, c2, c3⟩ := HG3.out.cells
            dsimp only at c0 c1 c2 c3
            obtain ⟨s', st', p', hadv, hcfg', hp', hp10, hst', hmv⟩ := HGO.out true (fun h => absurd h (by decide))
            have hpp : i + 1 + p' ≤ 30 := by have := hp' rfl; omega
            have HAD := hide (fun W (t : Tab W) => padv_at hadv HKU.out W t)
            clear hadv hp' hp10
            rcases hmv with ⟨hm0, hsteq⟩ | ⟨hm0, hmu, l', no, hmove, hd1, hd0, hbool⟩
            · rw [hm0] at HMV
              clear hm0
              subst hsteq
              go_wp2_with fail
              refine (HMV.out w3).mono ?_
              rintro e w' ⟨rfl, he'⟩
              obtain rfl := he'.symm
              clear he'
              have HBX := HB3
              have HGX := HG3
              have HIX := HI3
              go_wp2_with fail
              refine (HAD.out w3 HT3.out).mono ?_
              rintro e w6 ⟨rfl, b6⟩
              have HB6 : Hid (Below w.heap.size w w6) := hide (HBX.out.trans (b6.out.1.mono HBX.out.size))
              have HG6 := hide (HGX.out.below' b6.out.1)
              have HI6 := hide (HIX.out.below' b6.out.1)
              have HT6 := hide b6.out.2
              clear b6 c0 c1 c2 c3
              obtain ⟨c0, c1, c2, c3⟩ := HG6.out.cells
              have f1 := HG6.out.froz
              obtain ⟨q1, q2, q3, q4⟩ := s'
              dsimp only at c0 c1 c2 c3
              have hwi : IntKind.i64.wrap ((i : Int) + 1) = (i : Int) + 1 := by simp [IntKind.wrap_i64]; omega
              go_wp2
              go_roundw
              case rel => exact ⟨i + 1, ⟨q1, q2, q3, q4⟩, st', p', a, c, by omega, by simp, rfl, hide ⟨Pl.put4_blk HG6.out ⟨q1, q2, q3, q4⟩, hcfg'⟩, hide ⟨HI6.out.put4 HNA.out ⟨q1, q2, q3, q4⟩, HNA.out⟩, hide ⟨Pl.put4_below HB6.out HGE.out ⟨q1, q2, q3, q4⟩, HT6.out.put4 HG0P.out ⟨q1, q2, q3, q4⟩⟩⟩
              case measure => simp [intOf]; omega
            · have HMO := hide (fun W (t : Tab W) (h : IsH W a (lst o st).length c (lst o st)) => move_new hmove rfl a _ c W t h hmu)
              have HAS := hide (as_any (mvOf x))
              generalize mvOf x = m at *
              have hmb : (m != 0) = true := by simpa using hm0
              clear hm0 hmu hmove
              obtain ⟨rfl, rfl⟩ := hd1 rfl
              simp only [if_true] at HMO
              clear hd0 hbool hd1
              go_wp2_with fail
              refine (HMV.out w3).mono ?_
              rintro e w' ⟨rfl, he'⟩
              obtain rfl := he'.symm
              clear he'
              go_wp2_with fail
              refine (HMO.out w3 HT3.out HI3.out).mono ?_
              rintro e w5 ⟨a5, c5, rfl, H5, b5⟩
              have HBX : Hid (Below w.heap.size w w5) := hide (HB3.out.trans (b5.out.1.mono HB3.out.size))
              have HGX := hide (HG3.out.below' b5.out.1)
              have HTX := hide b5.out.2
              have HIX : Hid (IsH w5 a5 (lst o st').length c5 (lst o st')) := hide H5.out.1
              have HN5 : Hid (NewA (g + 1) a5) := hide (H5.out.2.mono (Pl.heap_lt HG3.out))
              clear H5 b5 c0 c1 c2 c3
              obtain ⟨c0, c1, c2, c3⟩ := HGX.out.cells
              dsimp only at c0 c1 c2 c3
              go_wp2_with fail
              refine (HAD.out w5 HTX.out).mono ?_
              rintro e w6 ⟨rfl, b6⟩
              have HB6 : Hid (Below w.heap.size w w6) := hide (HBX.out.trans (b6.out.1.mono HBX.out.size))
              have HG6 := hide (HGX.out.below' b6.out.1)
              have HI6 := hide (HIX.out.below' b6.out.1)
              have HT6 := hide b6.out.2
              clear b6 c0 c1 c2 c3
              obtain ⟨c0, c1, c2, c3⟩ := HG6.out.cells
              have f1 := HG6.out.froz
              obtain ⟨q1, q2, q3, q4⟩ := s'
              dsimp only at c0 c1 c2 c3
              have hwi : IntKind.i64.wrap ((i : Int) + 1) = (i : Int) + 1 := by simp [IntKind.wrap_i64]; omega
              go_wp2
              go_roundw
              case rel => exact ⟨i + 1, ⟨q1, q2, q3, q4⟩, st', p', a5, c5, by omega, by simp, rfl, hide ⟨Pl.put4_blk HG6.out ⟨q1, q2, q3, q4⟩, hcfg'⟩, hide ⟨HI6.out.put4 HN5.out ⟨q1, q2, q3, q4⟩, HN5.out⟩, hide ⟨Pl.put4_below HB6.out HGE.out ⟨q1, q2, q3, q4⟩, HT6.out.put4 HG0P.out ⟨q1, q2, q3, q4⟩⟩⟩
              case measure => simp [intOf]; omega
        · have hl1i : ¬ (i : Int) < (len1 : Int) := by omega
          go_wp2_with fail
          refine (HNX.out wr HT2.out).mono ?_
          rintro e w3 ⟨rfl, b3⟩
          have HB3 : Hid (Below w.heap.size w w3) := hide (HB2.out.trans (b3.out.1.mono HB2.out.size))
          have HG3 := hide (HG2.out.below' b3.out.1)
          have HI3 := hide (HI2.out.below' b3.out.1)
          have HT3 := hide b3.out.2
          clear b3 c0 c1 c2 c3
          obtain ⟨c0, c1, c2, c3⟩ := HG3.out.cells
          dsimp only at c0 c1 c2 c3
          obtain ⟨s', st', p', hadv, hcfg', hp', hp10, hst', hmv⟩ := HGO.out true (fun h => absurd h (by decide))
          have hpp : i + 1 + p' ≤ 30 := by have := hp' rfl; omega
          have HAD := hide (fun W (t : Tab W) => padv_at hadv HKU.out W t)
          clear hadv hp' hp10
          rcases hmv with ⟨hm0, hsteq⟩ | ⟨hm0, hmu, l', no, hmove, hd1, hd0, hbool⟩
          · rw [hm0] at HMV
            clear hm0
            subst hsteq
            go_wp2_with fail
            refine (HMV.out w3).mono ?_
            rintro e w' ⟨rfl, he'⟩
            obtain rfl := he'.symm
            clear he'
            have HBX := HB3
            have HGX := HG3
            have HIX := HI3
            go_wp2_with fail
            refine (HAD.out w3 HT3.out).mono ?_
            rintro e w6 ⟨rfl, b6⟩
            have HB6 : Hid (Below w.heap.size w w6) := hide (HBX.out.trans (b6.out.1.mono HBX.out.size))
            have HG6 := hide (HGX.out.below' b6.out.1)
            have HI6 := hide (HIX.out.below' b6.out.1)
            have HT6 := hide b6.out.2
            clear b6 c0 c1 c2 c3
            obtain ⟨c0, c1, c2, c3⟩ := HG6.out.cells
            have f1 := HG6.out.froz
            obtain ⟨q1, q2, q3, q4⟩ := s'
            dsimp only at c0 c1 c2 c3
            have hwi : IntKind.i64.wrap ((i : Int) + 1) = (i : Int) + 1 := by simp [IntKind.wrap_i64]; omega
            go_wp2
            go_roundw
            case rel => exact ⟨i + 1, ⟨q1, q2, q3, q4⟩, st', p', a, c, by omega, by simp, rfl, hide ⟨Pl.put4_blk HG6.out ⟨q1, q2, q3, q4⟩, hcfg'⟩, hide ⟨HI6.out.put4 HNA.out ⟨q1, q2, q3, q4⟩, HNA.out⟩, hide ⟨Pl.put4_below HB6.out HGE.out ⟨q1, q2, q3, q4⟩, HT6.out.put4 HG0P.out ⟨q1, q2, q3, q4⟩⟩⟩
            case measure => simp [intOf]; omega
          · have HMO := hide (fun W (t : Tab W) (h : IsH W a (lst o st).length c (lst o st)) => move_new hmove rfl a _ c W t h hmu)
            have HAS := hide (as_any (mvOf x))
            generalize mvOf x = m at *
            have hmb : (m != 0) = true := by simpa using hm0
            clear hm0 hmu hmove
            obtain ⟨rfl, rfl⟩ := hd1 rfl
            simp only [if_true] at HMO
            clear hd0 hbool hd1
            go_wp2_with fail
            refine (HMV.out w3).mono ?_
            rintro e w' ⟨rfl, he'⟩
            obtain rfl := he'.symm
            clear he'
            go_wp2_with fail
            refine (HMO.out w3 HT3.out HI3.out).mono ?_
            rintro e w5 ⟨a5, c5, rfl, H5, b5⟩
            have HBX : Hid (Below w.heap.size w w5) := hide (HB3.out.trans (b5.out.1.mono HB3.out.size))
            have HGX := hide (HG3.out.below' b5.out.1)
            have HTX := hide b5.out.2
            have HIX : Hid (IsH w5 a5 (lst o st').length c5 (lst o st')) := hide H5.out.1
            have HN5 : Hid (NewA (g + 1) a5) := hide (H5.out.2.mono (Pl.heap_lt HG3.out))
            clear H5 b5 c0 c1 c2 c3
            obtain ⟨c0, c1, c2, c3⟩ := HGX.out.cells
            dsimp only at c0 c1 c2 c3
            go_wp2_with fail
            refine (HAD.out w5 HTX.out).mono ?_
            rintro e w6 ⟨rfl, b6⟩
            have HB6 : Hid (Below w.heap.size w w6) := hide (HBX.out.trans (b6.out.1.mono HBX.out.size))
            have HG6 := hide (HGX.out.below' b6.out.1)
            have HI6 := hide (HIX.out.below' b6.out.1)
            have HT6 := hide b6.out.2
            clear b6 c0 c1 c2 c3
            obtain ⟨c0, c1, c2, c3⟩ := HG6.out.cells
            have f1 := HG6.out.froz
            obtain ⟨q1, q2, q3, q4⟩ := s'
            dsimp only at c0 c1 c2 c3
            have hwi : IntKind.i64.wrap ((i : Int) + 1) = (i : Int) + 1 := by simp [IntKind.wrap_i64]; omega
            go_wp2
            go_roundw
            case rel => exact ⟨i + 1, ⟨q1, q2, q3, q4⟩, st', p', a5, c5, by omega, by simp, rfl, hide ⟨Pl.put4_blk HG6.out ⟨q1, q2, q3, q4⟩, hcfg'⟩, hide ⟨HI6.out.put4 HN5.out ⟨q1, q2, q3, q4⟩, HN5.out⟩, hide ⟨Pl.put4_below HB6.out HGE.out ⟨q1, q2, q3, q4⟩, HT6.out.put4 HG0P.out ⟨q1, q2, q3, q4⟩⟩⟩
            case measure => simp [intOf]; omega
      · have HNX := hide (fun W (t : Tab W) => pnext_at hn HKU.out W t)
        have HOF := hide (fun W (t : Tab W) (h : IsH W a (lst o st).length c (lst o st)) => of_at (of_lst HO.out HSTB.out) a _ c W t h)
        clear hn
        obtain ⟨s1, s2, s3, s4⟩ := s
        obtain ⟨c0, c1, c2, c3⟩ := HG2.out.cells
        have hod : s1 = o := HOD.out
        subst hod
        dsimp only at *
        rcases hend with ⟨rfl, rfl, rfl, rfl⟩ | ⟨rfl, rfl, rfl⟩ | ⟨rfl, rfl, rfl⟩ | ⟨rfl, rfl, rfl⟩ | ⟨rfl, rfl, rfl⟩
        · go_wp2_with fail
          refine (HNX.out wr HT2.out).mono ?_
          rintro e w3 ⟨rfl, b3⟩
          have HB3 : Hid (Below w.heap.size w w3) := hide (HB2.out.trans (b3.out.1.mono HB2.out.size))
          have HG3 := hide (HG2.out.below' b3.out.1)
          have HI3 := hide (HI2.out.below' b3.out.1)
          have HT3 := hide b3.out.2
          clear b3 c0 c1 c2 c3
          obtain ⟨c0, c1, c2, c3⟩ := HG3.out.cells
          dsimp only at c0 c1 c2 c3
          go_wp2_with fail
          refine (HOF.out w3 HT3.out HI3.out).mono ?_
          rintro e w4 ⟨rfl, b4⟩
          have HB4 : Hid (Below w.heap.size w w4) := hide (HB3.out.trans (b4.out.1.mono HB3.out.size))
          have HG4 := hide (HG3.out.below' b4.out.1)
          have HI4 := hide (HI3.out.below' b4.out.1)
          have HT4 := hide b4.out.2
          clear b4 c0 c1 c2 c3
          obtain ⟨c0, c1, c2, c3⟩ := HG4.out.cells
          dsimp only at c0 c1 c2 c3
          have f1 := HG4.out.froz
          have hwi : IntKind.i64.wrap ((i : Int) + 1) = (i : Int) + 1 := by simp [IntKind.wrap_i64]; omega
          go_wp2
          go_roundw
          case rel => exact ⟨i + 1, ⟨s1, 3, 0, false⟩, 2, 4, a, c, by omega, by simp, rfl, hide ⟨Pl.put4_blk HG4.out ⟨s1, 3, 0, false⟩, rfl, by simp [cfgs]⟩, hide ⟨HI4.out.put4 HNA.out ⟨s1, 3, 0, false⟩, HNA.out⟩, hide ⟨Pl.put4_below HB4.out HGE.out ⟨s1, 3, 0, false⟩, HT4.out.put4 HG0P.out ⟨s1, 3, 0, false⟩⟩⟩
          case measure => simp [intOf]; omega
        · go_wp2_with fail
          refine (HNX.out wr HT2.out).mono ?_
          rintro e w3 ⟨rfl, b3⟩
          have HB3 : Hid (Below w.heap.size w w3) := hide (HB2.out.trans (b3.out.1.mono HB2.out.size))
          have HG3 := hide (HG2.out.below' b3.out.1)
          have HI3 := hide (HI2.out.below' b3.out.1)
          have HT3 := hide b3.out.2
          clear b3 c0 c1 c2 c3
          obtain ⟨c0, c1, c2, c3⟩ := HG3.out.cells
          dsimp only at c0 c1 c2 c3
          go_wp2_with fail
          refine (HOF.out w3 HT3.out HI3.out).mono ?_
          rintro e w4 ⟨rfl, b4⟩
          have HB4 : Hid (Below w.heap.size w w4) := hide (HB3.out.trans (b4.out.1.mono HB3.out.size))
          have HG4 := hide (HG3.out.below' b4.out.1)
          have HI4 := hide (HI3.out.below' b4.out.1)
          have HT4 := hide b4.out.2
          clear b4 c0 c1 c2 c3
          obtain ⟨c0, c1, c2, c3⟩ := HG4.out.cells
          dsimp only at c0 c1 c2 c3
          go_wp2
          go_ret
          exact ⟨rfl, HB4.out⟩
        · go_wp2_with fail
          refine (HNX.out wr HT2.out).mono ?_
          rintro e w3 ⟨rfl, b3⟩
          have HB3 : Hid (Below w.heap.size w w3) := hide (HB2.out.trans (b3.out.1.mono HB2.out.size))
          have HG3 := hide (HG2.out.below' b3.out.1)
          have HI3 := hide (HI2.out.below' b3.out.1)
          have HT3 := hide b3.out.2
          clear b3 c0 c1 c2 c3
          obtain ⟨c0, c1, c2, c3⟩ := HG3.out.cells
          dsimp only at c0 c1 c2 c3
          go_wp2_with fail
          refine (HOF.out w3 HT3.out HI3.out).mono ?_
          rintro e w4 ⟨rfl, b4⟩
          have HB4 : Hid (Below w.heap.size w w4) := hide (HB3.out.trans (b4.out.1.mono HB3.out.size))
          have HG4 := hide (HG3.out.below' b4.out.1)
          have HI4 := hide (HI3.out.below' b4.out.1)
          have HT4 := hide b4.out.2
          clear b4 c0 c1 c2 c3
          obtain ⟨c0, c1, c2, c3⟩ := HG4.out.cells
          dsimp only at c0 c1 c2 c3
          go_wp2
          go_ret
          exact ⟨rfl, HB4.out⟩
        · go_wp2_with fail
          refine (HNX.out wr HT2.out).mono ?_
          rintro e w3 ⟨rfl, b3⟩
          have HB3 : Hid (Below w.heap.size w w3) := hide (HB2.out.trans (b3.out.1.mono HB2.out.size))
          have HG3 := hide (HG2.out.below' b3.out.1)
          have HI3 := hide (HI2.out.below' b3.out.1)
          have HT3 := hide b3.out.2
          clear b3 c0 c1 c2 c3
          obtain ⟨c0, c1, c2, c3⟩ := HG3.out.cells
          dsimp only at c0 c1 c2 c3
          go_wp2_with fail
          refine (HOF.out w3 HT3.out HI3.out).mono ?_
          rintro e w4 ⟨rfl, b4⟩
          have HB4 : Hid (Below w.heap.size w w4) := hide (HB3.out.trans (b4.out.1.mono HB3.out.size))
          have HG4 := hide (HG3.out.below' b4.out.1)
          have HI4 := hide (HI3.out.below' b4.out.1)
          have HT4 := hide b4.out.2
          clear b4 c0 c1 c2 c3
          obtain ⟨c0, c1, c2, c3⟩ := HG4.out.cells
          dsimp only at c0 c1 c2 c3
          go_wp2
          go_ret
          exact ⟨rfl, HB4.out⟩
        · go_wp2_with fail
          refine (HNX.out wr HT2.out).mono ?_
          rintro e w3 ⟨rfl, b3⟩
          have HB3 : Hid (Below w.heap.size w w3) := hide (HB2.out.trans (b3.out.1.mono HB2.out.size))
          have HG3 := hide (HG2.out.below' b3.out.1)
          have HI3 := hide (HI2.out.below' b3.out.1)
          have HT3 := hide b3.out.2
          clear b3 c0 c1 c2 c3
          obtain ⟨c0, c1, c2, c3⟩ := HG3.out.cells
          dsimp only at c0 c1 c2 c3
          go_wp2_with fail
          refine (HOF.out w3 HT3.out HI3.out).mono ?_
          rintro e w4 ⟨rfl, b4⟩
          have HB4 : Hid (Below w.heap.size w w4) := hide (HB3.out.trans (b4.out.1.mono HB3.out.size))
          have HG4 := hide (HG3.out.below' b4.out.1)
          have HI4 := hide (HI3.out.below' b4.out.1)
          have HT4 := hide b4.out.2
          clear b4 c0 c1 c2 c3
          obtain ⟨c0, c1, c2, c3⟩ := HG4.out.cells
          dsimp only at c0 c1 c2 c3
          go_wp2
          go_ret
          exact ⟨rfl, HB4.out⟩
end Go.Proofs.YtfbfmhfceemkgaaDoor
